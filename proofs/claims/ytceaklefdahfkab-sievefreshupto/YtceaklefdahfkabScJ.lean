/- Several texts in one: Sc2, Sc3, Sc4, Sc5. -/
import Derived.Test.YtceaklefdahfkabSc1
import Derived.Test.YtceaklefdahfkabBgJ
import Derived.Deep.RegionWith
import Derived.Deep.DeepAppendRoom
import Derived.BigRegion
/- The document's sieve: what is held. -/
namespace Go.Proofs.Ytceaklefdahfkab
open Go.RowKit
def slS (v : Value) (lo hi mx : Option Value) : Sem Value := Instr.slice 9 v lo hi mx
theorem toSlS (v : Value) (lo hi mx : Option Value) : Instr.slice 9 v lo hi mx = slS v lo hi mx := rfl
theorem run_slS (s : ByteArray) (k : Nat) (h : k ≤ s.size) (w : World) : (slS (.string s) none (some (.int .i64 (k : Int))) none).run Try.prog w = .ok (.string (s.extract 0 k)) w := by
  unfold slS
  rw [run_slice_string_to_if (P := Try.prog) w 9 s .i64 (k : Int) Try.underlying9, if_pos ⟨by omega, by omega⟩]
  rfl
theorem tl_ext (s : ByteArray) (k : Nat) (_ : k ≤ s.size) : tl (s.extract 0 k) = (tl s).take k := by
  unfold tl
  rw [← List.map_take, ByteArray.data_extract, Array.toList_extract]
  simp [List.extract]
/-- A pattern with this beginning is among those with its first byte. -/
theorem fst_take (L : List (List Nat)) (k : Nat) (hk : 0 < k) (x : List Nat) (c : Nat) (hc : c = x.getD 0 0) : (∃ u ∈ L, u.take k = x) ↔ ∃ j ∈ fst L c, (L.getD j []).take k = x := by
  constructor
  · rintro ⟨u, hu, he⟩
    obtain ⟨j, hj, rfl⟩ := mem_getS hu
    refine ⟨j, List.mem_filter.2 ⟨List.mem_range.2 hj, ?_⟩, he⟩
    have : (L.getD j []).getD 0 0 = x.getD 0 0 := by rw [← he]; simp [List.getD, hk]
    rw [this, hc]; simp
  · rintro ⟨j, hj, he⟩
    exact ⟨L.getD j [], getS_mem (fst_lt L c j hj), he⟩
/-- Of no pattern nothing is held. -/
theorem held_0 (g : Nat) (lv : Value) (fv : Nat → Value) (l : List ByteArray) (F : Nat → List Nat) (p : List Nat) (pv : Value) (w : World) (h : Rf g lv fv l F 0 w) (hp : Si .u8 pv p w) : Calls Try.prog 63 #[.pointer (some ⟨g, 0, none⟩), pv] w fun e w' => e = .returned (.int .i64 0) ∧ w' = w := by
  obtain ⟨o, c, rfl, _⟩ := hp.form
  have a2 : w.cell? ⟨g, 257, none⟩ = some (.int .i64 0) := (cell_of_row w g _ _ _ _ h.row).trans (rfC_w _ _ _)
  have q : ¬ (-1 > (p.length : Int)) := by omega
  clear h hp
  go_enter Try.func63, Try.ntmps63
  go_wp2_with fail
  go_loopw [5] (fun iv wr => iv = .int .i64 (-1) ∧ wr = w) (fun _ _ => 0)
  case atStart => exact ⟨rfl, rfl⟩
  case round =>
    obtain ⟨rfl, rfl⟩ := hrel
    go_wp2
    go_ret
    exact ⟨rfl, rfl⟩
attribute [local go_sem ↓] toSlB toIxS toSlS
set_option maxRecDepth 100000 in
set_option maxHeartbeats 1600000 in
theorem held_any (g : Nat) (lv : Value) (fv : Nat → Value) (l : List ByteArray) (m : Nat) (hm : 0 < m) (hm1 : m ≤ 64) (hln : l.length ≤ 4096) (hsz : ∀ s ∈ l, s.size = m) (p : List Nat) (hpb : Byt p) (hpl : p.length ≤ 1073741824) (pv : Value) (w : World) (h : Rf g lv fv l (fst (l.map tl)) m w) (hp : Si .u8 pv p w) :
    Calls Try.prog 63 #[.pointer (some ⟨g, 0, none⟩), pv] w fun e w' => e = .returned (.int .i64 ((hld (l.map tl) p (min (m - 1) p.length) : Nat) : Int)) ∧ Below w.heap.size w w' := by
  obtain ⟨o, cap, rfl, hc1, hc2, hpf⟩ := hp.form
  have a0 : w.cell? ⟨g, 0, none⟩ = some lv := (cell_of_row w g _ _ _ _ h.row).trans (rfC_0 _ _ _)
  have a2 : w.cell? ⟨g, 257, none⟩ = some (.int .i64 (m : Int)) := (cell_of_row w g _ _ _ _ h.row).trans (rfC_w _ _ _)
  have HR : Hid _ := h
  obtain ⟨ol, cl, rfl, _, _, hlf⟩ := (own_st h.ol rfl).form
  have HLV : Hid (∀ j, j < l.length → ∃ b off, ol = some ⟨b, off, none⟩ ∧ b < w.heap.size ∧ w.cell? ⟨b, off + j, none⟩ = some (.string (txt l j))) := fun j hj => by
    obtain ⟨b, off, q1, q2, q3⟩ := hlf (by omega)
    exact ⟨b, off, q1, q2, q3 j _ (txt_get hj)⟩
  have HPF : Hid (0 < p.length → ∃ b off, o = some ⟨b, off, none⟩ ∧ b < w.heap.size ∧ ∀ j, j < p.length → w.cell? ⟨b, off + j, none⟩ = some (.int .u8 ((p.getD j 0 : Nat) : Int))) := hpf
  have HPB : Hid (Byt p) := hpb
  have HSZ : Hid (∀ s ∈ l, s.size = m) := hsz
  have gz : g < w.heap.size := h.gz
  have e1 : IntKind.i64.wrap ((m : Int) - 1) = ((m - 1 : Nat) : Int) := by rw [wi _ (by unfold I64; omega)]; omega
  obtain ⟨K, hK⟩ : ∃ K, K = min (m - 1) p.length := ⟨_, rfl⟩
  have hK1 : K ≤ m - 1 := by omega
  have hK2 : K ≤ p.length := by omega
  rw [← hK]
  have LOOP : Hid (K ≤ m - 1 ∧ K ≤ p.length) := ⟨hK1, hK2⟩
  clear h hp hpf hpb hsz hlf
  go_enter Try.func63, Try.ntmps63
  have hcase : (¬ ((m - 1 : Nat) : Int) > (p.length : Int) ∧ Hid (K = m - 1)) ∨ (((m - 1 : Nat) : Int) > (p.length : Int) ∧ Hid (K = p.length)) := by
    by_cases hq : p.length < m - 1
    · exact .inr ⟨by omega, by show _ = _; omega⟩
    · exact .inl ⟨by omega, by show _ = _; omega⟩
  obtain ⟨M1, hM1⟩ : ∃ M1, M1 = m - 1 := ⟨_, rfl⟩
  rw [← hM1] at e1 hcase hK1 LOOP
  have HM1 : Hid (M1 = m - 1) := hM1
  clear hK hM1
  rcases hcase with ⟨hq, HKE⟩ | ⟨hq, HKE⟩
  all_goals
    go_wp2_with fail
    go_loopw [5] (fun iv wr => ∃ k : Nat, iv = .int .i64 (k : Int) ∧ k ≤ K ∧ Hid (hld (l.map tl) p K = hld (l.map tl) p k) ∧ Hid (Below w.heap.size w wr)) (fun iv _ => (intOf iv).toNat)
    case atStart => exact ⟨K, by rw [HKE.out], Nat.le_refl _, rfl, Below.refl _ _⟩
    case round =>
      clear hq
      obtain ⟨k, rfl, hk, HE, HB⟩ := hrel
      by_cases hk0 : 0 < k
      · have hkz : (k : Int) > 0 := by omega
        obtain ⟨b, off, rfl, hb, hcp⟩ := HPF.out (by omega)
        have e2 : IntKind.i64.wrap ((p.length : Int) - (k : Int)) = ((p.length - k : Nat) : Int) := by rw [wi _ (by unfold I64; omega)]; omega
        have e3 : IntKind.i64.wrap ((k : Int) - 1) = ((k - 1 : Nat) : Int) := by rw [wi _ (by unfold I64; omega)]; omega
        obtain ⟨q, hqq⟩ : ∃ q, q = p.length - k := ⟨_, rfl⟩
        rw [← hqq] at e2
        have ct : ∀ W, (slB (.slice (some ⟨b, off, none⟩) p.length cap) (some (.int .i64 (q : Int))) none none).run Try.prog W = .ok (.slice (some ⟨b, off + q, none⟩) k (cap - q)) W := fun W => by
          have := run_cutL2 b off p.length cap q (by omega) hc1 W
          rw [show p.length - q = k by omega] at this
          exact this
        obtain ⟨x, hx⟩ : ∃ x, x = p.drop (p.length - k) := ⟨_, rfl⟩
        have hxl : x.length = k := by rw [hx, List.length_drop]; omega
        have hxb : Byt x := fun y hy => HPB.out y (by rw [hx] at hy; exact List.mem_of_mem_drop hy)
        have HCV : Hid (∀ W, Below w.heap.size w W → (convert 23 9 (.slice (some ⟨b, off + q, none⟩) k (cap - q))).run Try.prog W = .ok (.string (bst x)) W) := fun W hW => by
          have := conv_sub p b off cap q k hc1 hc2 (by omega) W (by have := hW.size; omega) (fun j hj => (World.cell?_of_block (w := w) (hW.block b hb)).trans (hcp j hj))
          rw [List.take_of_length_le (by rw [List.length_drop]; omega), hqq, ← hx] at this
          rw [hqq]; exact this
        have cv := HCV.out wr HB.out
        have htx := tl_bst x hxb
        have hts := bst_size x
        obtain ⟨tx, htx0⟩ : ∃ tx, tx = bst x := ⟨_, rfl⟩
        rw [← htx0] at cv htx hts HCV
        obtain ⟨c, hcx⟩ : ∃ c, c = x.getD 0 0 := ⟨_, rfl⟩
        have hc0 : c < 256 := by rw [hcx]; exact getD_byt hxb 0
        have hix : ∀ W : World, (ixS (.string tx) (.int .i64 0)).run Try.prog W = .ok (.int .u8 (c : Int)) W := fun W => by
          have := run_ixS tx 0 (by omega) W
          rw [htx, ← hcx] at this
          exact this
        have a1 : w.cell? ⟨g, 1 + c, none⟩ = some (fv c) := (cell_of_row w g _ _ _ _ HR.out.row).trans (rfC_f _ _ _ c hc0)
        obtain ⟨of', cf, hfv, _, _, hff2⟩ := (own_si (HR.out.of c hc0) rfl).form
        rw [hfv] at a1
        have HFV : Hid (∀ t, t < (fst (l.map tl) c).length → ∃ b off, of' = some ⟨b, off, none⟩ ∧ b < w.heap.size ∧ w.cell? ⟨b, off + t, none⟩ = some (.int .i64 (((fst (l.map tl) c).getD t 0 : Nat) : Int))) := fun t ht => by
          obtain ⟨b, off, q1, q2, q3⟩ := hff2 (by omega)
          exact ⟨b, off, q1, q2, q3 t ht⟩
        have HFM : Hid (∀ t, t < (fst (l.map tl) c).length → (fst (l.map tl) c).getD t 0 < l.length) := fun t ht => by
          have := fst_lt (l.map tl) c _ (getD_mem ht)
          simpa using this
        have HFL : Hid ((fst (l.map tl) c).length ≤ 4096) := by have := fst_len (l.map tl) c; rw [List.length_map] at this; exact Nat.le_trans this hln
        have HFT : Hid ((∃ u ∈ l.map tl, u.take k = x) ↔ ∃ j ∈ fst (l.map tl) c, ((l.map tl).getD j []).take k = x) := fst_take (l.map tl) k hk0 x c hcx
        generalize hFl : fst (l.map tl) c = FL at *
        have HU : Hid (hld (l.map tl) p k = if ∃ u ∈ l.map tl, u.take k = x then k else hld (l.map tl) p (k - 1)) := by
          show _ = _
          cases k with
          | zero => omega
          | succ k' => rw [hld, ← hx]; rfl
        have d1 : wr.cell? ⟨g, 1 + c, none⟩ = some (.slice of' FL.length cf) := (World.cell?_of_block (w := w) (HB.out.block g gz)).trans a1
        have hc00 : (0 : Int) ≤ (c : Int) := by omega
        have hc01 : (c : Int) < 256 := by omega
        have HTX : Hid (tl tx = x ∧ tx.size = k) := ⟨htx, by rw [hts]; exact hxl⟩
        have HQ : Hid (q = p.length - k) := hqq
        clear hff2 hfv hcp hx hcx htx0 hxl hts htx hqq hxb hFl a1
        go_wp2_with fail
        go_quiet (fail)
        go_wp2_with fail
        go_loopw [8] (fun iv wr => ∃ t : Nat, iv = .int .i64 (t : Int) ∧ t ≤ FL.length ∧ Hid (∀ j ∈ FL.take t, ¬ ((l.map tl).getD j []).take k = x) ∧ Hid (Below w.heap.size w wr)) (fun iv _ => FL.length - (intOf iv).toNat)
        case atStart => exact ⟨0, rfl, by omega, (fun j hj => by simp at hj), Below.drewN' HB.out nq⟩
        case round =>
          clear HB d1
          obtain ⟨t, rfl, ht, HN, HB⟩ := hrel
          have hfl := HFL.out
          by_cases hlt : t < FL.length
          · have ht0 : (0 : Int) ≤ (t : Int) := by omega
            have ht1 : (t : Int) < (FL.length : Int) := by omega
            have hj := HFM.out t hlt
            obtain ⟨bf, offf, rfl, hbf, hcf⟩ := HFV.out t hlt
            have hsnoc := take_snoc hlt
            have hmem : FL.getD t 0 ∈ FL := getD_mem hlt
            obtain ⟨j, hj0⟩ : ∃ j, j = FL.getD t 0 := ⟨_, rfl⟩
            rw [← hj0] at hj hcf hsnoc hmem
            obtain ⟨bl, offl, rfl, hbl, hcl⟩ := HLV.out j hj
            have k0 : wr.cell? ⟨g, 0, none⟩ = some (.slice (some ⟨bl, offl, none⟩) l.length cl) := (World.cell?_of_block (w := w) (HB.out.block g gz)).trans a0
            have kf : wr.cell? ⟨bf, offf + t, none⟩ = some (.int .i64 (j : Int)) := (World.cell?_of_block (w := w) (HB.out.block bf hbf)).trans hcf
            have kl : wr.cell? ⟨bl, offl + j, none⟩ = some (.string (txt l j)) := (World.cell?_of_block (w := w) (HB.out.block bl hbl)).trans hcl
            have hjz : (0 : Int) ≤ (j : Int) := by omega
            have hjl : (j : Int) < (l.length : Int) := by omega
            have hLj : (l.map tl).getD j [] = tl (txt l j) := by rw [txt_eq hj]; simp [List.getD, hj]
            have hks : k ≤ (txt l j).size := by rw [HSZ.out _ (List.mem_of_getElem? (txt_get hj))]; have := HM1.out; omega
            have hsl := run_slS (txt l j) k hks
            have hte := tl_ext (txt l j) k hks
            by_cases hab : (txt l j).extract 0 k = tx
            · have HE2 : Hid (hld (l.map tl) p K = k) := by
                show _ = _
                rw [HE.out, HU.out, if_pos]
                refine HFT.out.2 ⟨j, hmem, ?_⟩
                rw [hLj, ← hte, hab]; exact HTX.out.1
              rw [hab] at hsl
              clear hLj hsnoc hcf hcl hj0 HN HFM HFV HLV HFT hab hte HU HE hks hmem
              generalize txt l j = tj at *
              go_wp2_with fail
              go_quiet (fail)
              go_wp2
              go_ret
              exact ⟨by rw [HE2.out]; rfl, Below.drewN' HB.out _⟩
            · have HN2 : Hid (∀ j ∈ FL.take (t + 1), ¬ ((l.map tl).getD j []).take k = x) := fun i hi => by
                rw [hsnoc] at hi
                rcases List.mem_append.1 hi with h1 | h1
                · exact HN.out i h1
                · rw [List.mem_singleton] at h1
                  rw [h1, hLj, ← hte]
                  exact fun h2 => hab (tl_inj (by rw [h2]; exact HTX.out.1.symm))
              have hab' := str_off hab
              clear hLj hsnoc hcf hcl hj0 HN hab hte hks hmem
              generalize (txt l j).extract 0 k = ts at *
              generalize txt l j = tj at *
              go_wp2_with fail
              go_quiet (fail)
              go_wp2
              exact ⟨⟨t + 1, by rfl, by omega, HN2, Below.drewN' HB.out _⟩, by simp only [intOf]; omega⟩
          · have ht1 : ¬ ((t : Int) < (FL.length : Int)) := by omega
            have HE2 : Hid (hld (l.map tl) p K = hld (l.map tl) p (k - 1)) := by
              show _ = _
              rw [HE.out, HU.out, if_neg]
              intro h1
              obtain ⟨j, hj, he⟩ := HFT.out.1 h1
              have hnn := HN.out
              rw [List.take_of_length_le (show FL.length ≤ t by omega)] at hnn
              exact hnn j hj he
            clear HE HU HFT HN HCV cv
            go_wp2
            exact ⟨⟨k - 1, by rfl, by omega, HE2, HB⟩, by simp only [intOf]; omega⟩
      · have hkz : ¬ ((k : Int) > 0) := by omega
        have HE2 : Hid (hld (l.map tl) p K = 0) := by
          show _ = _
          rw [HE.out, show k = 0 by omega]; rfl
        clear HE
        go_wp2
        go_ret
        exact ⟨by rw [HE2.out]; rfl, HB.out⟩
end Go.Proofs.Ytceaklefdahfkab

/- The document's Scanner: made, At, Held; the code's At, Held. -/
namespace Go.Proofs.Ytceaklefdahfkab
open Go.RowKit
attribute [local go_sem ↓] toSlB toApp
set_option maxRecDepth 100000 in
set_option maxHeartbeats 1600000 in
theorem scanR_own (g : Nat) (lv : Value) (fv : Nat → Value) (l : List ByteArray) (m : Nat) (hm : 0 < m) (hm1 : m ≤ 64) (hln : l.length ≤ 4096) (hnd : (l.map tl).Nodup) (p : List Nat) (hpb : Byt p) (hpl : p.length ≤ 1073741824) (pv : Value) (w : World) (h : Rf g lv fv l (fst (l.map tl)) m w) (hp : Si .u8 pv p w) :
    Calls Try.prog 62 #[.pointer (some ⟨g, 0, none⟩), pv] w fun e w' => ∃ v, e = .returned v ∧ w'.ownsRow w.heap.size 39 2 v (hts (l.map tl) m p).length (hc (hts (l.map tl) m p)) ∧ Below w.heap.size w w' := by
  obtain ⟨o, c, rfl, hc1, hc2, hpf⟩ := hp.form
  have HP : Hid (Si .u8 (.slice o p.length c) p w) := hp
  have HR : Hid _ := h
  have a2 : w.cell? ⟨g, 257, none⟩ = some (.int .i64 (m : Int)) := (cell_of_row w g _ _ _ _ h.row).trans (rfC_w _ _ _)
  have gz : g < w.heap.size := h.gz
  have HND : Hid _ := hnd
  have HPB : Hid _ := hpb
  have HPF : Hid (0 < p.length → ∃ b off, o = some ⟨b, off, none⟩ ∧ b < w.heap.size ∧ ∀ j, j < p.length → w.cell? ⟨b, off + j, none⟩ = some (.int .u8 ((p.getD j 0 : Nat) : Int))) := hpf
  have hm0 : ((m : Int) == 0) = false := beq_eq_false_iff_ne.2 (by omega)
  have hmn : ¬ ((m : Int) = 0) := by omega
  clear hp h hnd hpb hpf
  go_enter Try.func62, Try.ntmps62
  go_wp2_with fail
  go_loopw [5, 6] (fun hv iv wr => ∃ i : Nat, iv = .int .i64 (i : Int) ∧ i ≤ p.length + 1 - m ∧ Hid (wr.ownsRow w.heap.size 39 2 hv (hcn (l.map tl) m p i) (hc ((List.range i).flatMap (htA (l.map tl) m p)))) ∧ Hid (Below w.heap.size w wr)) (fun _ iv _ => p.length + 1 - (intOf iv).toNat)
  case atStart => exact ⟨0, rfl, by omega, World.ownsRow_nil _ _ _ _, Below.refl _ _⟩
  case round =>
    obtain ⟨i, rfl, hi, HO, HB⟩ := hrel
    obtain ⟨ou, cu, rfl⟩ := own_size HO.out
    have k2 : wr.cell? ⟨g, 257, none⟩ = some (.int .i64 (m : Int)) := (World.cell?_of_block (w := w) (HB.out.block g gz)).trans a2
    obtain ⟨s, hs⟩ : ∃ s, s = i + m := ⟨_, rfl⟩
    have es : IntKind.i64.wrap ((i : Int) + (m : Int)) = (s : Int) := by rw [wi _ (by unfold I64; omega)]; omega
    by_cases hsd : s ≤ p.length
    · have hsd' : (s : Int) ≤ (p.length : Int) := by omega
      obtain ⟨b, off, rfl, hb, hcp⟩ := HPF.out (by omega)
      have ct := run_cutL2 b off p.length c i (by omega) hc1
      have hdl : (p.drop i).length = p.length - i := by rw [List.length_drop]
      have hsi : Si .u8 (.slice (some ⟨b, off + i, none⟩) (p.length - i) (c - i)) (p.drop i) wr := .inr ⟨b, off + i, c - i, by rw [hdl], by omega, by unfold maxLen; omega, by have := HB.out.size; omega, fun j hj => by
        rw [hdl] at hj
        rw [Nat.add_assoc, World.cell?_of_block (w := w) (HB.out.block b hb), hcp (i + j) (by omega)]
        have : (p.drop i).getD j 0 = p.getD (i + j) 0 := by rw [List.getD, List.getElem?_drop, ← List.getD]
        rw [this]⟩
      have CA : Hid (Calls Try.prog 80 #[.pointer (some ⟨g, 0, none⟩), .slice (some ⟨b, off + i, none⟩) (p.length - i) (c - i)] wr fun e w' => e = .returned (.int .i64 (atV (l.map tl) ((p.drop i).take m))) ∧ Below wr.heap.size wr w') :=
        at_any g lv fv l m hm hm1 hln HND.out (p.drop i) (fun x hx => HPB.out x (List.mem_of_mem_drop hx)) (by rw [hdl]; omega) (by rw [hdl]; omega) _ wr (HR.out.below HB.out) hsi
      have hle := hcn_le (l.map tl) m p i
      have hsu := hcn_succ (l.map tl) m p i
      have hfm : (List.range (i + 1)).flatMap (htA (l.map tl) m p) = (List.range i).flatMap (htA (l.map tl) m p) ++ htA (l.map tl) m p i := by
        rw [List.range_succ, List.flatMap_append]; simp
      by_cases hin : (p.drop i).take m ∈ l.map tl
      · have hk : atV (l.map tl) ((p.drop i).take m) = (((l.map tl).idxOf ((p.drop i).take m) : Nat) : Int) := by rw [atV, if_pos hin]
        rw [hk] at CA
        rw [if_pos hin] at hsu
        have hha : htA (l.map tl) m p i = [((i : Int), (((l.map tl).idxOf ((p.drop i).take m) : Nat) : Int))] := by rw [htA, if_pos hin]
        rw [hha] at hfm
        generalize (l.map tl).idxOf ((p.drop i).take m) = kk at CA hfm
        have hk0 : (0 : Int) ≤ (kk : Int) := by omega
        have ADD : Hid (∀ W, Below wr.heap.size wr W → ∃ v' W', (appH 31 #[.slice ou (hcn (l.map tl) m p i) cu, .slice (some ⟨W.heap.size, 0, none⟩) 1 1]).run Try.prog (W.alloc (.cells #[.int .i64 (i : Int), .int .i64 (kk : Int)] 39)) = .ok v' W' ∧ Hid (W'.ownsRow w.heap.size 39 2 v' (hcn (l.map tl) m p (i + 1)) (hc ((List.range (i + 1)).flatMap (htA (l.map tl) m p)))) ∧ Hid (Below w.heap.size w W')) := fun W hbW => by
          have hBw : Below w.heap.size w W := HB.out.trans (hbW.mono HB.out.size)
          have hoW : W.ownsRow w.heap.size 39 2 (.slice ou (hcn (l.map tl) m p i) cu) (hcn (l.map tl) m p i) (hc ((List.range i).flatMap (htA (l.map tl) m p))) := own_keep2 HO.out fun k hk => hbW.block k (HO.out.lt k hk).2
          obtain ⟨v', W', r, ho, hg⟩ := run_app1h W w.heap.size _ 31 _ _ (i : Int) (kk : Int) hoW (by omega) hBw.size
          refine ⟨v', W', r, by rw [hsu, hfm]; exact ho, hBw.trans ⟨by rw [hg.os]; rfl, by rw [hg.tape]; rfl, by rw [hg.output]; rfl, by have := hg.size; simp at this; omega, fun j hj => ?_⟩⟩
          have hz := hBw.size
          rw [hg.block j (by simp; omega) (fun e => by have := (hoW.lt j e.symm).1; omega), heap_alloc_old _ _ (h := by omega)]
        clear hk hin hha hfm hsu hsi hcp hdl
        have HS : Hid (s = i + m) := hs
        clear hs
        generalize hcn (l.map tl) m p i = N at *
        go_wp2_with fail
        refine Calls.mono CA.out ?_
        rintro e Wd ⟨rfl, hbd⟩
        obtain ⟨v', W', r, HO2, HB2⟩ := ADD.out Wd hbd
        clear hbd
        go_wp2
        exact ⟨⟨i + 1, by rfl, by have := HS.out; omega, HO2, HB2⟩, by have := HS.out; simp only [intOf]; omega⟩
      · have hk : atV (l.map tl) ((p.drop i).take m) = -1 := by rw [atV, if_neg hin]
        rw [hk] at CA
        rw [if_neg hin, Nat.add_zero] at hsu
        have hha : htA (l.map tl) m p i = [] := by rw [htA, if_neg hin]
        rw [hha, List.append_nil] at hfm
        have HO2 : Hid (∀ W, Below wr.heap.size wr W → W.ownsRow w.heap.size 39 2 (.slice ou (hcn (l.map tl) m p i) cu) (hcn (l.map tl) m p (i + 1)) (hc ((List.range (i + 1)).flatMap (htA (l.map tl) m p)))) := fun W hbW => by
          rw [hsu, hfm]
          exact own_keep2 HO.out fun k hk => hbW.block k (HO.out.lt k hk).2
        clear hk hin hha hfm hsu hsi hcp hdl
        have HS : Hid (s = i + m) := hs
        clear hs
        go_wp2_with fail
        refine Calls.mono CA.out ?_
        rintro e Wd ⟨rfl, hbd⟩
        have HO3 : Hid _ := HO2.out Wd hbd
        have HB3 : Hid (Below w.heap.size w Wd) := HB.out.trans (hbd.mono HB.out.size)
        clear hbd
        go_wp2
        exact ⟨⟨i + 1, by rfl, by have := HS.out; omega, HO3, HB3⟩, by have := HS.out; simp only [intOf]; omega⟩
    · have hsd' : ¬ ((s : Int) ≤ (p.length : Int)) := by omega
      have hie : i = p.length + 1 - m := by omega
      have HE : Hid (wr.ownsRow w.heap.size 39 2 (.slice ou (hcn (l.map tl) m p i) cu) (hts (l.map tl) m p).length (hc (hts (l.map tl) m p))) := by
        have h1 := HO.out
        have h2 := (hl_own h1).2
        have h3 : (hts (l.map tl) m p).length = hcn (l.map tl) m p i := by unfold hts; rw [← hie]; exact h2.symm
        show World.ownsRow _ _ _ _ _ _ _
        rw [h3]
        unfold hts
        rw [← hie]
        exact h1
      clear hie hs HO
      generalize hcn (l.map tl) m p i = N at *
      go_wp2
      go_ret
      exact ⟨_, rfl, HE.out, HB.out⟩

/-- The document's scanner, as it lies. -/
def Rsc (gs g : Nat) (lv : Value) (n : Nat) (w : World) : Prop := w.heap[gs]? = some (.cells #[.pointer (some ⟨g, 0, none⟩), lv, .int .i64 (n : Int)] 105 (0, 0))
theorem scannerR_nil (w : World) : Calls Try.prog 27 #[.pointer none] w fun e w' => e = .returned (.pointer none) ∧ w' = w := by
  go_enter Try.func27, Try.ntmps27
  go_wp2
  go_ret
  exact ⟨rfl, rfl⟩
theorem scannerR_any (g : Nat) (w : World) : Calls Try.prog 27 #[.pointer (some ⟨g, 0, none⟩)] w fun e w' => e = .returned (.pointer (some ⟨w.heap.size, 0, none⟩)) ∧ Rsc w.heap.size g (.slice none 0 0) 0 w' ∧ Below w.heap.size w w' ∧ w'.heap.size = w.heap.size + 1 := by
  obtain ⟨W, hW⟩ : ∃ W, w.alloc (.cells #[.pointer (some ⟨g, 0, none⟩), .slice none 0 0, .int .i64 0] 105) = W := ⟨_, rfl⟩
  have H : Hid (Rsc w.heap.size g (.slice none 0 0) 0 W ∧ Below w.heap.size w W ∧ W.heap.size = w.heap.size + 1) := by
    rw [← hW]
    exact ⟨heap_alloc_new w _, (Below.refl _ w).alloc (Nat.le_refl _) _, by simp⟩
  go_enter Try.func27, Try.ntmps27
  go_wp2
  go_ret
  exact ⟨rfl, H.out⟩
theorem atR_nil (w : World) : Calls Try.prog 32 #[.pointer none] w fun e w' => e = .returned (.int .i64 0) ∧ w' = w := by
  go_enter Try.func32, Try.ntmps32
  go_wp2
  go_ret
  exact ⟨rfl, rfl⟩
theorem atR_any (gs g : Nat) (lv : Value) (n : Nat) (w : World) (h : Rsc gs g lv n w) : Calls Try.prog 32 #[.pointer (some ⟨gs, 0, none⟩)] w fun e w' => e = .returned (.int .i64 (n : Int)) ∧ w' = w := by
  have c : w.cell? ⟨gs, 2, none⟩ = some (.int .i64 (n : Int)) := (cell_of_row w gs _ _ _ _ h).trans rfl
  clear h
  go_enter Try.func32, Try.ntmps32
  go_wp2
  go_ret
  exact ⟨rfl, rfl⟩
theorem atC_any (gs gt s n h : Nat) (w : World) (hs : Scn gs gt s n h w) : Calls Try.prog 31 #[.pointer (some ⟨gs, 0, none⟩)] w fun e w' => e = .returned (.int .i64 (n : Int)) ∧ w' = w := by
  have c : w.cell? ⟨gs, 2, none⟩ = some (.int .i64 (n : Int)) := (cell_of_row w gs _ _ _ _ hs).trans rfl
  clear hs
  go_enter Try.func31, Try.ntmps31
  go_wp2
  go_ret
  exact ⟨rfl, rfl⟩
theorem heldC_any (gs gt s n h : Nat) (w : World) (hs : Scn gs gt s n h w) : Calls Try.prog 33 #[.pointer (some ⟨gs, 0, none⟩)] w fun e w' => e = .returned (.int .i64 (h : Int)) ∧ w' = w := by
  have c : w.cell? ⟨gs, 3, none⟩ = some (.int .i64 (h : Int)) := (cell_of_row w gs _ _ _ _ hs).trans rfl
  clear hs
  go_enter Try.func33, Try.ntmps33
  go_wp2
  go_ret
  exact ⟨rfl, rfl⟩
theorem heldR_nil (w : World) : Calls Try.prog 34 #[.pointer none] w fun e w' => e = .returned (.int .i64 0) ∧ w' = w := by
  go_enter Try.func34, Try.ntmps34
  go_wp2
  go_ret
  exact ⟨rfl, rfl⟩
/-- Held, by what 'held' answers at every world alike. -/
theorem heldR_any (gs g : Nat) (lv : Value) (n k : Nat) (w : World) (h : Rsc gs g lv n w) (C : ∀ W, Below w.heap.size w W → Calls Try.prog 63 #[.pointer (some ⟨g, 0, none⟩), lv] W fun e w' => e = .returned (.int .i64 (k : Int)) ∧ Below W.heap.size W w') :
    Calls Try.prog 34 #[.pointer (some ⟨gs, 0, none⟩)] w fun e w' => e = .returned (.int .i64 (k : Int)) ∧ Below w.heap.size w w' := by
  have c0 : w.cell? ⟨gs, 0, none⟩ = some (.pointer (some ⟨g, 0, none⟩)) := (cell_of_row w gs _ _ _ _ h).trans rfl
  have c1 : w.cell? ⟨gs, 1, none⟩ = some lv := (cell_of_row w gs _ _ _ _ h).trans rfl
  have HC : Hid _ := C
  clear h C
  go_enter Try.func34, Try.ntmps34
  go_wp2_with fail
  go_region_with ((go_at_call 63; refine Calls.mono (HC.out _ (by first | exact Below.refl _ _ | exact Below.drewN' (Below.refl _ _) _ | exact Below.drewN' (Below.refl _ _) 1)) ?_; rintro e w' ⟨rfl, hb'⟩; have HB' : Hid (Below w.heap.size w w') := (Below.trans (by first | exact Below.refl _ _ | exact Below.drewN' (Below.refl _ _) _ | exact Below.drewN' (Below.refl _ _) 1) (hb'.mono (Nat.le_refl _))); clear hb'))
  all_goals
    go_wp2
    go_ret
    exact ⟨rfl, HB'.out⟩
end Go.Proofs.Ytceaklefdahfkab

/- The document's Feed: what it lays. -/
namespace Go.Proofs.Ytceaklefdahfkab
open Go.RowKit
/-- Bytes appended where there is room. -/
theorem ap_in (W : World) (base G n cap : Nat) (xs a : List Nat) (av : Value) (ho : W.ownsRow base 5 1 (.slice (some ⟨G, 0, none⟩) n cap) n (ik .u8 xs).toList) (ha : Si .u8 av a W) (hr : n + a.length ≤ cap) :
    ∃ W', (apB 23 #[.slice (some ⟨G, 0, none⟩) n cap, av]).run Try.prog W = .ok (.slice (some ⟨G, 0, none⟩) (n + a.length) cap) W' ∧ W'.ownsRow base 5 1 (.slice (some ⟨G, 0, none⟩) (n + a.length) cap) (n + a.length) (ik .u8 (xs ++ a)).toList ∧ W.grownBy W' (some G) := by
  obtain ⟨i0, hi0, hz0, hz1, hz2⟩ := info_parts info5
  rcases ha with ⟨rfl, rfl⟩ | ⟨b, off, c, rfl, h2, h3, h4, h5⟩
  · refine ⟨W, run_append_owned_none (P := Try.prog) W base 23 23 5 i0 1 Try.underlying23 hi0 _ n _ ho, ?_, ⟨rfl, rfl, rfl, Nat.le_refl _, fun _ _ _ => rfl⟩⟩
    rw [List.append_nil]; exact ho
  · obtain ⟨W', r, o, gr⟩ := run_append_own_spare (P := Try.prog) W base 23 23 5 i0 1 Try.underlying23 hi0 hz1 G n cap _ ho ⟨b, off, none⟩ a.length c (ik .u8 a).toList (by simp [ik]) (fun j u hu => by
      have hj : j < a.length := by have := (List.getElem?_eq_some_iff.1 hu).1; simpa [ik] using this
      rw [Array.getElem?_toList, ik_get _ _ j hj] at hu
      rw [← Option.some.inj hu, Go.WideShapes.add_plain]
      exact h5 j hj) (fun u hu => by
      have := ik_one .u8 a
      rw [Array.all_eq_true] at this
      obtain ⟨j, hj, rfl⟩ := List.getElem_of_mem hu
      simp only [Array.length_toList] at hj
      exact this j hj) hr
    have e : (ik .u8 xs).toList ++ (ik .u8 a).toList = (ik .u8 (xs ++ a)).toList := by simp [ik]
    rw [e] at o
    exact ⟨W', r, o, gr⟩
/-- Two lists laid behind one another in new memory. -/
theorem mk_all (W : World) (a p : List Nat) (av pv : Value) (ha : Si .u8 av a W) (hp : Si .u8 pv p W) (hl : a.length + p.length ≤ 1099511627776) :
    ∃ W1 W2 W3, (mkB (.int .i64 0) (.int .i64 ((a.length + p.length : Nat) : Int))).run Try.prog W = .ok (.slice (some ⟨W.heap.size, 0, none⟩) 0 (a.length + p.length)) W1 ∧
      (apB 23 #[.slice (some ⟨W.heap.size, 0, none⟩) 0 (a.length + p.length), av]).run Try.prog W1 = .ok (.slice (some ⟨W.heap.size, 0, none⟩) a.length (a.length + p.length)) W2 ∧
      (apB 23 #[.slice (some ⟨W.heap.size, 0, none⟩) a.length (a.length + p.length), pv]).run Try.prog W2 = .ok (.slice (some ⟨W.heap.size, 0, none⟩) (a.length + p.length) (a.length + p.length)) W3 ∧
      Below W.heap.size W W1 ∧ Below W.heap.size W W2 ∧ Below W.heap.size W W3 ∧ Si .u8 (.slice (some ⟨W.heap.size, 0, none⟩) (a.length + p.length) (a.length + p.length)) (a ++ p) W3 := by
  obtain ⟨i0, hi0, hz0, hz1, hz2⟩ := info_parts info5
  have hr := run_make (P := Try.prog) W 23 5 i0 _ (by kernel_rfl) hi0 hz0 .i64 .i64 0 ((a.length + p.length : Nat) : Int) (by omega) (by omega) (by rw [hz2]; omega) (by omega)
  rw [Int.toNat_natCast, hz1, Nat.mul_one] at hr
  obtain ⟨W1, hW1⟩ : ∃ W1, W.alloc (.cells (madeCells (Value.int .u8 0).cells (a.length + p.length)) 5) = W1 := ⟨_, rfl⟩
  rw [hW1] at hr
  have b1 : Below W.heap.size W W1 := by rw [← hW1]; exact (Below.refl _ W).alloc (Nat.le_refl _) _
  have o1 : W1.ownsRow W.heap.size 5 1 (.slice (some ⟨W.heap.size, 0, none⟩) 0 (a.length + p.length)) 0 (ik .u8 []).toList :=
    ⟨rfl, .inr ⟨W.heap.size, a.length + p.length, _, rfl, Nat.le_refl _, by rw [← hW1]; exact heap_alloc_new W _, by omega, by unfold maxLen; omega, by rw [size_madeCells, Nat.mul_one], by simp [ik]⟩⟩
  have gb : ∀ {U V : World}, Below W.heap.size W U → U.grownBy V (some W.heap.size) → Below W.heap.size W V := fun {U V} hb g => hb.trans ⟨g.os, g.tape, g.output, g.size, fun k hk => g.block k (by have := hb.size; omega) (fun e => by have := Option.some.inj e; omega)⟩
  obtain ⟨W2, r2, o2, g2⟩ := ap_in W1 W.heap.size W.heap.size 0 (a.length + p.length) [] a av o1 (ha.below b1) (by omega)
  rw [Nat.zero_add] at r2 o2
  have b2 := gb b1 g2
  obtain ⟨W3, r3, o3, g3⟩ := ap_in W2 W.heap.size W.heap.size a.length (a.length + p.length) ([] ++ a) p pv o2 (hp.below b2) (by omega)
  rw [List.nil_append] at o3
  exact ⟨W1, W2, W3, hr, r2, r3, b1, b2, gb b2 g3, own_si o3 (by simp)⟩
theorem run_cutE (g n p : Nat) (h : p ≤ n) (w : World) : (slB (.slice (some ⟨g, 0, none⟩) n n) (some (.int .i64 (p : Int))) none none).run Try.prog w = .ok (.slice (some ⟨g, if p < n then p else 0, none⟩) (n - p) (n - p)) w := by
  have := run_slice_l (P := Try.prog) w 23 (some ⟨g, 0, none⟩) n n u27 .i64 (p : Int) (by omega) (by omega)
  unfold slB
  rw [this, elem27, run_size1 w size5]
  simp only [Result.andThen, sliced, Int.toNat_natCast, Option.map_some, Nat.mul_one]
  by_cases hp : p < n
  · rw [if_neg (by omega), Go.WideShapes.add_plain, Nat.zero_add, if_pos hp]
  · rw [if_pos (by omega), if_neg hp]
/-- A hit moved. -/
def shf (n : Int) (x : Int × Int) : Int × Int := (x.1 + n, x.2)
theorem hc_set : ∀ (L : List (Int × Int)) (i : Nat) (z : Int), i < L.length → (hc L).set (i * 2) (.int .i64 z) = hc (L.set i (z, (L.getD i (0, 0)).2))
  | [], _, _, h => by simp at h
  | x :: L, 0, z, _ => by simp [hc]
  | x :: L, i + 1, z, h => by
    have ih := hc_set L i z (by simpa using h)
    rw [show (i + 1) * 2 = i * 2 + 1 + 1 by omega]
    have e1 : hc (x :: L) = .int .i64 x.1 :: .int .i64 x.2 :: hc L := by simp [hc]
    rw [e1, List.set_cons_succ, List.set_cons_succ, ih, List.set_cons_succ]
    simp [hc]
theorem set_hit {W : World} {base hb N cap : Nat} {L : List (Int × Int)} (ho : W.ownsRow base 39 2 (.slice (some ⟨hb, 0, none⟩) N cap) N (hc L)) (i : Nat) (hi : i < L.length) (z : Int) :
    (W.setCell ⟨hb, i * 2, none⟩ (.int .i64 z)).ownsRow base 39 2 (.slice (some ⟨hb, 0, none⟩) N cap) N (hc (L.set i (z, (L.getD i (0, 0)).2))) := by
  obtain ⟨h1, ⟨h2, _⟩ | ⟨g, cap', cur, hv, h3, h4, h5, h6, h7, h8⟩⟩ := ho
  · cases h2
  · cases hv
    refine ⟨by rw [← hc_set _ _ _ hi, List.length_set]; exact h1, .inr ⟨hb, cap, cur.setIfInBounds (i * 2) (.int .i64 z), rfl, h3, heap_setCell_same _ _ _ _ _ _ h4, h5, h6, by simp; exact h7, ?_⟩⟩
    rw [← hc_set _ _ _ hi, ← h8, Array.toList_setIfInBounds, List.take_set]
/-- The row of some hits. -/
theorem hit_row {W : World} {base N : Nat} {v : Value} {L : List (Int × Int)} (ho : W.ownsRow base 39 2 v N (hc L)) (h : 0 < N) : ∃ hb cap cur, v = .slice (some ⟨hb, 0, none⟩) N cap ∧ base ≤ hb ∧ W.heap[hb]? = some (.cells cur 39 (0, 0)) := by
  obtain ⟨h1, ⟨h2, h3⟩ | ⟨g, cap', cur, hv, h3, h4, h5, h6, h7, h8⟩⟩ := ho
  · omega
  · exact ⟨g, cap', cur, hv, h3, h4⟩
/-- The hits with the first of them moved. -/
def shl (n : Int) (H : List (Int × Int)) (i : Nat) : List (Int × Int) := (H.take i).map (shf n) ++ H.drop i
theorem shl_len (n : Int) (H : List (Int × Int)) (i : Nat) : (shl n H i).length = H.length := by simp [shl]; omega
theorem shl_get (n : Int) (H : List (Int × Int)) (i : Nat) (h : i < H.length) : (shl n H i).getD i (0, 0) = H.getD i (0, 0) := by
  have h1 : ((H.take i).map (shf n)).length = i := by simp; omega
  rw [shl, List.getD, List.getElem?_append_right (by omega), h1, Nat.sub_self, List.getElem?_drop, Nat.add_zero, ← List.getD]
theorem shl_succ (n : Int) (H : List (Int × Int)) (i : Nat) (h : i < H.length) : (shl n H i).set i ((H.getD i (0, 0)).1 + n, (H.getD i (0, 0)).2) = shl n H (i + 1) := by
  have h1 : ((H.take i).map (shf n)).length = i := by simp; omega
  have h2 : H.drop i = H[i] :: H.drop (i + 1) := List.drop_eq_getElem_cons h
  have h3 : H.getD i (0, 0) = H[i] := by simp [List.getD, h]
  rw [shl, List.set_append_right _ _ (by omega), h1, Nat.sub_self, h2, List.set_cons_zero, shl, List.take_succ_eq_append_getElem h, List.map_append, List.append_assoc, h3]
  rfl
theorem shl_all (n : Int) (H : List (Int × Int)) : shl n H H.length = H.map (shf n) := by simp [shl]
/-- All but one block stand. -/
structure But (gs : Nat) (w w' : World) : Prop where
  os : w'.os = w.os
  tape : w'.tape = w.tape
  output : w'.output = w.output
  size : w.heap.size ≤ w'.heap.size
  block : ∀ j, j < w.heap.size → j ≠ gs → w'.heap[j]? = w.heap[j]?
attribute [local go_sem ↓] toSlB toApB toMkB
set_option maxRecDepth 100000 in
set_option maxHeartbeats 3200000 in
theorem feedR_any (gs g m n : Nat) (sc : List Nat → List (Int × Int)) (a p : List Nat) (lvv pv : Value) (w : World) (hne : g ≠ gs) (hm : m ≤ 64) (hn : n ≤ 1125899906842624) (han : a.length ≤ n) (hal : a.length ≤ 64) (hpl : p.length ≤ 16777216)
    (hs : Rsc gs g lvv n w) (ha : Si .u8 lvv a w) (hp : Si .u8 pv p w) (hgz : g < w.heap.size) (hgw : w.cell? ⟨g, 257, none⟩ = some (.int .i64 (m : Int)))
    (CS : ∀ W v, Below w.heap.size w W → Si .u8 v (a ++ p) W → Calls Try.prog 62 #[.pointer (some ⟨g, 0, none⟩), v] W fun e w' => ∃ v', e = .returned v' ∧ w'.ownsRow W.heap.size 39 2 v' (sc (a ++ p)).length (hc (sc (a ++ p))) ∧ Below W.heap.size W w')
    (hsc : ∀ x ∈ sc (a ++ p), 0 ≤ x.1 ∧ x.1 ≤ 1125899906842624) :
    Calls Try.prog 30 #[.pointer (some ⟨gs, 0, none⟩), pv] w fun e w' => ∃ v lvv', e = .returned v ∧ w'.ownsRow w.heap.size 39 2 v (sc (a ++ p)).length (hc ((sc (a ++ p)).map (shf ((n - a.length : Nat) : Int)))) ∧
      Rsc gs g lvv' (n + p.length) w' ∧ Si .u8 lvv' (lastN m (a ++ p)) w' ∧ (∀ k, lvv'.ownBlock = some k → w.heap.size ≤ k) ∧ But gs w w' := by
  obtain ⟨W1, W2, W3, r1, r2, r3, b1, b2, b3, hall⟩ := mk_all w a p lvv pv ha hp (by omega)
  obtain ⟨oa, ca, rfl, _⟩ := ha.form
  obtain ⟨op, cp, rfl, _⟩ := hp.form
  have gsz : gs < w.heap.size := (Array.getElem?_eq_some_iff.1 hs).1
  obtain ⟨N, hN⟩ : ∃ N, N = a.length + p.length := ⟨_, rfl⟩
  have HN : Hid (N = a.length + p.length) := hN
  rw [← hN] at r1 r2 r3 hall
  have e1 : IntKind.i64.wrap ((a.length : Int) + (p.length : Int)) = (N : Int) := by rw [wi _ (by unfold I64; omega)]; omega
  obtain ⟨LV, hLV⟩ : ∃ LV, LV = Value.slice oa a.length ca := ⟨_, rfl⟩
  have cc : ∀ W, Below w.heap.size w W → W.cell? ⟨gs, 0, none⟩ = some (.pointer (some ⟨g, 0, none⟩)) ∧ W.cell? ⟨gs, 1, none⟩ = some (.slice oa a.length ca) ∧ W.cell? ⟨gs, 2, none⟩ = some (.int .i64 (n : Int)) := fun W hb => by
    have h0 : W.heap[gs]? = _ := (hb.block gs gsz).trans hs
    exact ⟨(cell_of_row W gs _ _ _ _ h0).trans rfl, (cell_of_row W gs _ _ _ _ h0).trans rfl, (cell_of_row W gs _ _ _ _ h0).trans rfl⟩
  have k0 := (cc w (Below.refl _ _)).2.1
  have k1 := (cc W1 b1).2.1
  have k3 := (cc W3 b3).1
  have CSW : Hid _ := CS W3 _ b3 hall
  have HCC : Hid _ := cc
  have HALL : Hid (Si .u8 (.slice (some ⟨w.heap.size, 0, none⟩) N N) (a ++ p) W3) := hall
  have HB3 : Hid (Below w.heap.size w W3) := b3
  have HSC : Hid _ := hsc
  have HW : Hid (w.cell? ⟨g, 257, none⟩ = some (.int .i64 (m : Int))) := hgw
  have HS : Hid (Rsc gs g (.slice oa a.length ca) n w) := hs
  generalize hH : sc (a ++ p) = H at *
  clear hLV CS hs ha hp hgw hsc b1 b2 b3 hall cc hN
  go_enter Try.func30, Try.ntmps30
  go_wp2_with fail
  refine Calls.mono CSW.out ?_
  rintro e W4 ⟨v4, rfl, ho4, hb4⟩
  obtain ⟨o4, c4, rfl, _⟩ := (hl_own ho4).1.form
  have HO4 : Hid (W4.ownsRow W3.heap.size 39 2 (.slice o4 H.length c4) H.length (hc (shl ((n - a.length : Nat) : Int) H 0))) := ho4
  have HB4 : Hid (Below W3.heap.size W3 W4) := hb4
  have HX : Hid (∀ i, i < H.length → 0 ≤ (H.getD i (0, 0)).1 ∧ (H.getD i (0, 0)).1 ≤ 1125899906842624) := fun i hi => HSC.out _ (by simp only [List.getD, List.getElem?_eq_getElem hi, Option.getD_some]; exact List.getElem_mem hi)
  clear ho4 hb4 CSW k0 k1 k3 r1 r2 r3
  obtain ⟨dd, hdd⟩ : ∃ dd : Int, dd = ((n - a.length : Nat) : Int) := ⟨_, rfl⟩
  have HDD : Hid (dd = (n : Int) - (a.length : Int)) := by show _ = _; omega
  have HDE : Hid (dd = ((n - a.length : Nat) : Int)) := hdd
  rw [← hdd] at HO4
  clear hdd
  go_wp2_with fail
  go_loopw [7] (fun iv wr => ∃ i : Nat, iv = .int .i64 (i : Int) ∧ i ≤ H.length ∧ Hid (wr.ownsRow W3.heap.size 39 2 (.slice o4 H.length c4) H.length (hc (shl dd H i))) ∧ Hid (Below W3.heap.size W3 wr)) (fun iv _ => H.length - (intOf iv).toNat)
  case atStart => exact ⟨0, rfl, by omega, HO4, HB4⟩
  case round =>
    clear HO4 HB4
    obtain ⟨i, rfl, hi, HO, HB⟩ := hrel
    have hBw : Below w.heap.size w wr := HB3.out.trans (HB.out.mono HB3.out.size)
    by_cases hlt : i < H.length
    · have hi0 : (0 : Int) ≤ (i : Int) := by omega
      have hi1 : (i : Int) < (H.length : Int) := by omega
      obtain ⟨hb, cap, cur, hv, hbb, hrow⟩ := hit_row HO.out (by omega)
      cases hv
      obtain ⟨x, hx⟩ : ∃ x, x = (H.getD i (0, 0)).1 := ⟨_, rfl⟩
      have hxr := HX.out i hlt
      rw [← hx] at hxr
      obtain ⟨D, hD⟩ : ∃ D, wr.drew = D := ⟨_, rfl⟩
      have hDh : D.heap = wr.heap := by rw [← hD]; rfl
      have hcell : wr.cell? ⟨hb, i * 2, none⟩ = some (.int .i64 x) := by
        have h1 := (hl_own HO.out).1
        rcases h1 with ⟨q1, _⟩ | ⟨b', off', cap', q1, _, _, _, q5⟩
        · cases q1
        · have q6 : hb = b' ∧ off' = 0 := by
            simp only [Value.slice.injEq, Option.some.injEq, Addr.mk.injEq] at q1
            exact ⟨q1.1.1, q1.1.2.1.symm⟩
          obtain ⟨rfl, rfl⟩ := q6
          have := (q5 i (by rw [shl_len]; exact hlt)).1
          rw [shl_get _ _ _ hlt, ← hx, Nat.zero_add] at this
          exact this
      have c1 : D.cell? ⟨hb, i * 2, none⟩ = some (.int .i64 x) := by rw [← hD]; exact hcell
      have f1 : D.frozen? ⟨hb, i * 2, none⟩ = false := by rw [← hD]; exact frozen_of_row wr _ _ _ _ hrow
      have c2 : D.cell? ⟨gs, 2, none⟩ = some (.int .i64 (n : Int)) := by rw [← hD]; exact (HCC.out wr hBw).2.2
      have c3 : D.cell? ⟨gs, 1, none⟩ = some (.slice oa a.length ca) := by rw [← hD]; exact (HCC.out wr hBw).2.1
      have w1 : IntKind.i64.wrap (x + (n : Int)) = x + (n : Int) := wi _ (by unfold I64; omega)
      have w2 : IntKind.i64.wrap (x + (n : Int) - (a.length : Int)) = x + dd := by rw [wi _ (by unfold I64; omega), HDD.out]; omega
      have HO2 : Hid ((D.setCell ⟨hb, i * 2, none⟩ (.int .i64 (x + dd))).ownsRow W3.heap.size 39 2 (.slice (some ⟨hb, 0, none⟩) H.length c4) H.length (hc (shl dd H (i + 1)))) := by
        have h0 : D.ownsRow W3.heap.size 39 2 (.slice (some ⟨hb, 0, none⟩) H.length c4) H.length (hc (shl dd H i)) := own_keep2 HO.out fun k _ => by rw [hDh]
        have h1 := set_hit h0 i (by rw [shl_len]; exact hlt) (x + dd)
        rw [shl_get _ _ _ hlt, hx, shl_succ _ _ _ hlt] at h1
        rw [hx]
        exact h1
      have HB2 : Hid (Below W3.heap.size W3 (D.setCell ⟨hb, i * 2, none⟩ (.int .i64 (x + dd)))) := Below.setCell (by rw [← hD]; exact Below.drewN' HB.out 1) hbb _
      clear hrow hcell HO HB hBw hx hDh HX HSC HCC
      go_wp2_with fail
      go_big_region
      go_wp2
      exact ⟨⟨i + 1, by rfl, by omega, HO2, HB2⟩, by simp only [intOf]; omega⟩
    · have hi1 : ¬ ((i : Int) < (H.length : Int)) := by omega
      have hrow : wr.heap[gs]? = some (.cells #[.pointer (some ⟨g, 0, none⟩), .slice oa a.length ca, .int .i64 (n : Int)] 105 (0, 0)) := (hBw.block gs gsz).trans HS.out
      have k2 : wr.cell? ⟨gs, 2, none⟩ = some (.int .i64 (n : Int)) := (cell_of_row wr gs _ _ _ _ hrow).trans rfl
      have f2 : wr.frozen? ⟨gs, 2, none⟩ = false := frozen_of_row wr _ _ _ _ hrow
      obtain ⟨n2, hn2⟩ : ∃ n2, n2 = n + p.length := ⟨_, rfl⟩
      have e4 : IntKind.i64.wrap ((n : Int) + (p.length : Int)) = (n2 : Int) := by rw [wi _ (by unfold I64; omega)]; omega
      obtain ⟨Wn, hWn⟩ : ∃ Wn, wr.setCell ⟨gs, 2, none⟩ (.int .i64 (n2 : Int)) = Wn := ⟨_, rfl⟩
      have hrown : Wn.heap[gs]? = some (.cells #[.pointer (some ⟨g, 0, none⟩), .slice oa a.length ca, .int .i64 (n2 : Int)] 105 (0, 0)) := by rw [← hWn]; exact (heap_setCell_same _ _ _ _ _ _ hrow).trans (by simp)
      have kn0 : Wn.cell? ⟨gs, 0, none⟩ = some (.pointer (some ⟨g, 0, none⟩)) := (cell_of_row Wn gs _ _ _ _ hrown).trans rfl
      have kn1 : Wn.cell? ⟨gs, 1, none⟩ = some (.slice oa a.length ca) := (cell_of_row Wn gs _ _ _ _ hrown).trans rfl
      have fn1 : Wn.frozen? ⟨gs, 1, none⟩ = false := frozen_of_row Wn _ _ _ _ hrown
      have hnb : ∀ j, j ≠ gs → Wn.heap[j]? = wr.heap[j]? := fun j hj => by rw [← hWn]; exact Below.heap_setCell _ _ _ _ hj
      have knw : Wn.cell? ⟨g, 257, none⟩ = some (.int .i64 (m : Int)) := (World.cell?_of_block (w := w) ((hnb g hne).trans (hBw.block g hgz))).trans HW.out
      have nsz : Wn.heap.size = wr.heap.size := by rw [← hWn]; simp [World.setCell]
      have FIN : Hid (∀ (lv2 : Value) (K oq : Nat), K = min (m - 1) N → lv2 = .slice (some ⟨w.heap.size, oq, none⟩) K K → (0 < K → oq = N - K) → ∃ v lvv', Value.slice o4 H.length c4 = v ∧ (Wn.setCell ⟨gs, 1, none⟩ lv2).ownsRow w.heap.size 39 2 v H.length (hc (H.map (shf ((n - a.length : Nat) : Int)))) ∧
          Rsc gs g lvv' (n + p.length) (Wn.setCell ⟨gs, 1, none⟩ lv2) ∧ Si .u8 lvv' (lastN m (a ++ p)) (Wn.setCell ⟨gs, 1, none⟩ lv2) ∧ (∀ k, lvv'.ownBlock = some k → w.heap.size ≤ k) ∧ But gs w (Wn.setCell ⟨gs, 1, none⟩ lv2)) := fun lv2 K oq hK hlv hoq => by
        subst hlv
        rw [← hn2]
        have hie : i = H.length := by omega
        have hz3 := HB3.out.size
        have hzr := hBw.size
        have hb2 : ∀ j, j ≠ gs → (Wn.setCell ⟨gs, 1, none⟩ (.slice (some ⟨w.heap.size, oq, none⟩) K K)).heap[j]? = wr.heap[j]? := fun j hj => (Below.heap_setCell _ _ _ _ hj).trans (hnb j hj)
        have hsz : (Wn.setCell ⟨gs, 1, none⟩ (.slice (some ⟨w.heap.size, oq, none⟩) K K)).heap.size = wr.heap.size := by rw [← nsz]; simp [World.setCell]
        refine ⟨_, .slice (some ⟨w.heap.size, oq, none⟩) K K, rfl, ?_, (heap_setCell_same _ _ _ _ _ _ hrown).trans (by simp), ?_, ?_, ?_⟩
        · have h1 := HO.out
          rw [hie, shl_all, HDE.out] at h1
          refine own_down (own_keep2 h1 fun k hk => hb2 k ?_) hz3
          have := (h1.lt k hk).1
          omega
        · have e0 : (a ++ p).length = N := by rw [List.length_append]; exact HN.out.symm
          unfold lastN
          rw [e0, ← hK]
          rcases HALL.out with ⟨q1, _⟩ | ⟨b', off', cap', q1, _, _, q4, q5⟩
          · cases q1
          · simp only [Value.slice.injEq, Option.some.injEq, Addr.mk.injEq] at q1
            obtain ⟨⟨q6, q7, _⟩, _, _⟩ := q1
            rw [← q6] at q4
            have hkl : ((a ++ p).drop (N - K)).length = K := by rw [List.length_drop, e0]; omega
            refine .inr ⟨w.heap.size, oq, K, by rw [hkl], by omega, by unfold maxLen; omega, by rw [hsz]; have := HB.out.size; omega, fun j hj => ?_⟩
            rw [hkl] at hj
            have h2 := q5 (N - K + j) (by rw [e0]; omega)
            rw [← q6, ← q7, Nat.zero_add] at h2
            rw [World.cell?_of_block (w := wr) (hb2 w.heap.size (by omega)), hoq (by omega), World.cell?_of_block (w := W3) (HB.out.block w.heap.size q4), h2]
            have : ((a ++ p).drop (N - K)).getD j 0 = (a ++ p).getD (N - K + j) 0 := by rw [List.getD, List.getElem?_drop, ← List.getD]
            rw [this]
        · intro k hk
          have : w.heap.size = k := by cases hk; rfl
          omega
        · refine ⟨?_, ?_, ?_, ?_, fun j hj hj2 => (hb2 j hj2).trans (hBw.block j hj)⟩
          · show Wn.os = _; rw [← hWn]; exact hBw.os
          · show Wn.tape = _; rw [← hWn]; exact hBw.tape
          · show Wn.output = _; rw [← hWn]; exact hBw.output
          · rw [hsz]; exact hzr
      have HNB : Hid (N ≤ 16777280) := by have := HN.out; show _ ≤ _; omega
      clear hrow hrown hnb hBw nsz hn2 HO HB HX HSC HCC HS hi hlt
      have ctE : ∀ K, K ≤ N → ∃ oq, (0 < K → oq = N - K) ∧ ∀ W, (slB (.slice (some ⟨w.heap.size, 0, none⟩) N N) (some (.int .i64 ((N - K : Nat) : Int))) none none).run Try.prog W = .ok (.slice (some ⟨w.heap.size, oq, none⟩) K K) W := fun K hK => by
        refine ⟨if N - K < N then N - K else 0, fun h => by rw [if_pos (by omega)], fun W => ?_⟩
        have := run_cutE w.heap.size N (N - K) (by omega) W
        rw [show N - (N - K) = K by omega] at this
        exact this
      have hnb2 := HNB.out
      by_cases hm0 : m = 0
      · subst hm0
        obtain ⟨oq, hoq, ct⟩ := ctE 0 (by omega)
        have HF : Hid _ := FIN.out (.slice (some ⟨w.heap.size, oq, none⟩) 0 0) 0 oq (by omega) rfl hoq
        have q1 : ¬ ((0 : Int) > (N : Int)) := by omega
        have e6 : IntKind.i64.wrap (N : Int) = (N : Int) := wi _ (by unfold I64; omega)
        rw [Nat.sub_zero] at ct
        clear FIN ctE hoq
        go_wp2
        go_ret
        obtain ⟨v, lvv', rfl, z2, z3⟩ := HF.out
        exact ⟨_, rfl, z2, lvv', z3⟩
      · obtain ⟨M1, hM1⟩ : ∃ M1, M1 = m - 1 := ⟨_, rfl⟩
        have e5 : IntKind.i64.wrap ((m : Int) - 1) = (M1 : Int) := by rw [wi _ (by unfold I64; omega)]; omega
        have q0 : ¬ ((M1 : Int) < 0) := by omega
        by_cases hq : N < M1
        · obtain ⟨oq, hoq, ct⟩ := ctE N (by omega)
          have HF : Hid _ := FIN.out (.slice (some ⟨w.heap.size, oq, none⟩) N N) N oq (by omega) rfl hoq
          have q1 : (M1 : Int) > (N : Int) := by omega
          rw [Nat.sub_self] at ct
          have ct0 : ∀ W, (slB (.slice (some ⟨w.heap.size, 0, none⟩) N N) (some (.int .i64 0)) none none).run Try.prog W = .ok (.slice (some ⟨w.heap.size, oq, none⟩) N N) W := ct
          have e6 : IntKind.i64.wrap ((N : Int) - (N : Int)) = 0 := by rw [wi _ (by unfold I64; omega)]; omega
          clear FIN ctE hoq ct hM1
          go_wp2
          go_ret
          obtain ⟨v, lvv', rfl, z2, z3⟩ := HF.out
          exact ⟨_, rfl, z2, lvv', z3⟩
        · obtain ⟨oq, hoq, ct⟩ := ctE M1 (by omega)
          have HF : Hid _ := FIN.out (.slice (some ⟨w.heap.size, oq, none⟩) M1 M1) M1 oq (by omega) rfl hoq
          have q1 : ¬ ((M1 : Int) > (N : Int)) := by omega
          obtain ⟨q2, hq2⟩ : ∃ q2, q2 = N - M1 := ⟨_, rfl⟩
          have e6 : IntKind.i64.wrap ((N : Int) - (M1 : Int)) = (q2 : Int) := by rw [wi _ (by unfold I64; omega)]; omega
          rw [← hq2] at ct
          clear hq2
          clear FIN ctE hoq hM1
          go_wp2
          go_ret
          obtain ⟨v, lvv', rfl, z2, z3⟩ := HF.out
          exact ⟨_, rfl, z2, lvv', z3⟩
end Go.Proofs.Ytceaklefdahfkab

/- SieveScans: cuts. -/
namespace Go.Proofs.Ytceaklefdahfkab
open Go.RowKit
/-- The first and the rest of some bytes. -/
theorem cut2 (v : Value) (d : List Nat) (k : Nat) (hk : k ≤ d.length) (w : World) (h : Si .u8 v d w) : ∃ oh ch ot ct, (∀ W, (slB v none (some (.int .i64 (k : Int))) none).run Try.prog W = .ok (.slice oh k ch) W) ∧ Si .u8 (.slice oh k ch) (d.take k) w ∧
    (∀ W, (slB v (some (.int .i64 (k : Int))) none none).run Try.prog W = .ok (.slice ot (d.length - k) ct) W) ∧ Si .u8 (.slice ot (d.length - k) ct) (d.drop k) w := by
  rcases h with ⟨rfl, rfl⟩ | ⟨b, off, cap, rfl, h2, h3, h4, h5⟩
  · have : k = 0 := by simpa using hk
    subst this
    refine ⟨none, 0, none, 0, fun W => ?_, .inl ⟨rfl, rfl⟩, fun W => ?_, .inl ⟨rfl, rfl⟩⟩
    · have := run_slice_h (P := Try.prog) W 23 none 0 0 u27 .i64 ((0 : Nat) : Int) (by omega) (by omega)
      unfold slB
      rw [this, elem27, run_size1 W size5]
      rfl
    · have := run_slice_l (P := Try.prog) W 23 none 0 0 u27 .i64 ((0 : Nat) : Int) (by omega) (by omega)
      unfold slB
      rw [this, elem27, run_size1 W size5]
      rfl
  · refine ⟨some ⟨b, off, none⟩, cap, some ⟨b, if k < cap then off + k else off, none⟩, cap - k, fun W => run_cutH b off d.length cap k (by omega) W, ?_, fun W => ?_, ?_⟩
    · have hl : (d.take k).length = k := by rw [List.length_take]; omega
      refine .inr ⟨b, off, cap, by rw [hl], by omega, h3, h4, fun j hj => ?_⟩
      rw [hl] at hj
      rw [h5 j (by omega)]
      have : (d.take k).getD j 0 = d.getD j 0 := by rw [List.getD, List.getElem?_take, if_pos hj, ← List.getD]
      rw [this]
    · have := run_slice_l (P := Try.prog) W 23 (some ⟨b, off, none⟩) d.length cap u27 .i64 (k : Int) (by omega) (by omega)
      unfold slB
      rw [this, elem27, run_size1 W size5]
      simp only [Result.andThen, sliced, Int.toNat_natCast, Option.map_some, Nat.mul_one]
      by_cases hp : k < cap
      · rw [if_neg (by omega), Go.WideShapes.add_plain, if_pos hp]
      · rw [if_pos (by omega), if_neg hp]
    · have hl : (d.drop k).length = d.length - k := by rw [List.length_drop]
      refine .inr ⟨b, _, cap - k, by rw [hl], by omega, by omega, h4, fun j hj => ?_⟩
      rw [hl] at hj
      rw [if_pos (by omega), Nat.add_assoc, h5 (k + j) (by omega)]
      have : (d.drop k).getD j 0 = d.getD (k + j) 0 := by rw [List.getD, List.getElem?_drop, ← List.getD]
      rw [this]
/-- The pieces. -/
def ctk (x : Nat) (d : List Nat) : Nat := min (x % 40) d.length
def cutL (d : List Nat) (ls : List Nat) : Nat → List (List Nat) × List Nat
  | 0 => ([], d)
  | i + 1 => ((cutL d ls i).1 ++ [(cutL d ls i).2.take (ctk (ls.getD i 0) (cutL d ls i).2)], (cutL d ls i).2.drop (ctk (ls.getD i 0) (cutL d ls i).2))
theorem cutL_flat (d ls : List Nat) : ∀ i, (cutL d ls i).1.flatten ++ (cutL d ls i).2 = d
  | 0 => rfl
  | i + 1 => by
    rw [cutL]
    simp only [List.flatten_append, List.flatten_cons, List.flatten_nil, List.append_nil]
    rw [List.append_assoc, List.take_append_drop]
    exact cutL_flat d ls i
theorem cutL_len (d ls : List Nat) : ∀ i, (cutL d ls i).1.length = i
  | 0 => rfl
  | i + 1 => by rw [cutL]; simp [cutL_len d ls i]
theorem cutL_rest (d ls : List Nat) (i : Nat) : (cutL d ls i).2.length ≤ d.length := by
  have := congrArg List.length (cutL_flat d ls i)
  rw [List.length_append] at this
  omega
theorem info23 : (Try.prog.info? 23).map (fun i => (i.zero, i.size, i.bytes)) = some (some (.slice none 0 0), 1, 24) := by kernel_rfl
def apL (ty : Nat) (vs : Array Value) : Sem Value := Builtin.append_ #[62, 62] ty vs
theorem toApL (ty : Nat) (vs : Array Value) : Builtin.append_ #[62, 62] ty vs = apL ty vs := rfl
/-- A piece appended. -/
theorem run_apL (w : World) (base n : Nat) (v : Value) (vs : List Value) (o : Option Addr) (k c : Nat) (hown : w.ownsRow base 23 1 v n vs) (hb : n ≤ 1073741824) (hbase : base ≤ w.heap.size) :
    ∃ v' w', (apL 62 #[v, .slice (some ⟨w.heap.size, 0, none⟩) 1 1]).run Try.prog (w.alloc (.cells #[.slice o k c] 23)) = .ok v' w' ∧ w'.ownsRow base 23 1 v' (n + 1) (vs ++ [.slice o k c]) ∧ (w.alloc (.cells #[.slice o k c] 23)).grownBy w' v.ownBlock := by
  obtain ⟨i0, hi0, hz0, hz1, hz2⟩ := info_parts info23
  obtain ⟨v', w', hr, ho, hg, _, hat⟩ := run_append_own_at (P := Try.prog) (w.alloc (.cells #[.slice o k c] 23)) base 62 62 23 i0 _ 1 24 Try.underlying62 hi0 hz0 hz1 hz2 rfl (by omega) v n _ (hown.alloc _) ⟨w.heap.size, 0, none⟩ 1 1 [.slice o k c] rfl
    (World.news_of_block (cs := #[.slice o k c]) (t := 23) (fr := (0, 0)) (heap_alloc_new w _)) (fun u hu => by simp at hu; subst hu; rfl) (by unfold maxLen; omega) (by omega) (by simp; omega)
  exact ⟨v', w', hr, ho, hg⟩
/-- Slices, each some bytes. -/
def Pcs (vs : List Value) (P : List (List Nat)) (w : World) : Prop := vs.length = P.length ∧ ∀ j, j < P.length → ∃ o c, vs[j]? = some (.slice o (P.getD j []).length c) ∧ Si .u8 (.slice o (P.getD j []).length c) (P.getD j []) w
theorem Pcs.snoc {vs : List Value} {P : List (List Nat)} {w : World} (h : Pcs vs P w) (o : Option Addr) (c k : Nat) (x : List Nat) (hk : k = x.length) (hx : Si .u8 (.slice o k c) x w) : Pcs (vs ++ [.slice o k c]) (P ++ [x]) w := by
  subst hk
  refine ⟨by simp [h.1], fun j hj => ?_⟩
  rw [List.length_append, List.length_singleton] at hj
  by_cases hl : j < P.length
  · obtain ⟨o', c', q1, q2⟩ := h.2 j hl
    have e : (P ++ [x]).getD j [] = P.getD j [] := getS_snoc P x j hl
    rw [e]
    exact ⟨o', c', by rw [List.getElem?_append_left (by rw [h.1]; exact hl)]; exact q1, q2⟩
  · have hj2 : j = P.length := by omega
    subst hj2
    rw [getS_last]
    exact ⟨o, c, by rw [List.getElem?_append_right (by rw [h.1]; exact Nat.le_refl _), h.1, Nat.sub_self]; rfl, hx⟩
theorem own_form {w : World} {base e n : Nat} {v : Value} {xs : List Value} (h : w.ownsRow base e 1 v n xs) : ∃ o c, v = .slice o n c := by
  obtain ⟨_, ⟨h1, h2⟩ | ⟨g, cap, cur, h1, _⟩⟩ := h
  · subst h2; exact ⟨none, 0, h1⟩
  · exact ⟨_, _, h1⟩
attribute [local go_sem ↓] toSlB toApL
set_option maxRecDepth 100000 in
set_option maxHeartbeats 1600000 in
theorem cuts_any (d ls : List Nat) (hd : d.length ≤ 1073741824) (hl : ls.length ≤ 1073741824) (hlb : Byt ls) (v u : Value) (wa w : World) (hbw : Below wa.heap.size wa w) (hv : Si .u8 v d wa) (hu0 : Si .u8 u ls wa) :
    Calls Try.prog 28 #[v, u] w fun e w' => ∃ v' vs P, e = .returned v' ∧ w'.ownsRow w.heap.size 23 1 v' P.length vs ∧ Pcs vs P wa ∧ P.length = ls.length + 1 ∧ P.flatten = d ∧ Below w.heap.size w w' := by
  have hu : Si .u8 u ls w := hu0.below hbw
  obtain ⟨o0, c0, rfl, _⟩ := hv.form
  obtain ⟨o1, c1, rfl, _, _, hf⟩ := hu.form
  have HF : Hid (∀ j, j < ls.length → ∃ b off, o1 = some ⟨b, off, none⟩ ∧ b < w.heap.size ∧ w.cell? ⟨b, off + j, none⟩ = some (.int .u8 ((ls.getD j 0 : Nat) : Int))) := fun j hj => by
    obtain ⟨b, off, q1, q2, q3⟩ := hf (by omega)
    exact ⟨b, off, q1, q2, q3 j hj⟩
  have HV : Hid (Si .u8 (.slice o0 d.length c0) d wa) := hv
  have HLB : Hid (Byt ls) := hlb
  clear hv hu hu0 hf hlb hbw
  go_enter Try.func28, Try.ntmps28
  go_wp2_with fail
  go_loopw [0, 5, 6] (fun dv ov iv wr => ∃ (i nd co : Nat) (od oo : Option Addr) (cd : Nat) (vs : List Value), iv = .int .i64 (i : Int) ∧ dv = .slice od nd cd ∧ ov = .slice oo i co ∧ i ≤ ls.length ∧ Hid (nd = (cutL d ls i).2.length) ∧ nd ≤ 1073741824 ∧ Hid (Si .u8 (.slice od nd cd) (cutL d ls i).2 wa) ∧ Hid (wr.ownsRow w.heap.size 23 1 (.slice oo i co) i vs) ∧ Hid (Pcs vs (cutL d ls i).1 wa) ∧ Hid (Below w.heap.size w wr)) (fun _ _ iv _ => ls.length - (intOf iv).toNat)
  case atStart => exact ⟨0, d.length, 0, o0, none, c0, [], rfl, rfl, rfl, by omega, rfl, hd, HV, World.ownsRow_nil _ _ _ _, ⟨rfl, fun j hj => by simp [cutL] at hj⟩, Below.refl _ _⟩
  case round =>
    obtain ⟨i, nd, co, od, oo, cd, vs, rfl, rfl, rfl, hi, HND, hnd, HD, HO, HP, HB⟩ := hrel
    by_cases hlt : i < ls.length
    · have hi0 : (0 : Int) ≤ (i : Int) := by omega
      have hi1 : (i : Int) < (ls.length : Int) := by omega
      obtain ⟨b, off, rfl, hb, hcell⟩ := HF.out i hlt
      have hx256 : ls.getD i 0 < 256 := getD_byt HLB.out i
      obtain ⟨x, hx⟩ : ∃ x, x = ls.getD i 0 := ⟨_, rfl⟩
      rw [← hx] at hcell hx256
      have c1 : wr.cell? ⟨b, off + i, none⟩ = some (.int .u8 (x : Int)) := (World.cell?_of_block (w := w) (HB.out.block b hb)).trans hcell
      obtain ⟨q, hq⟩ : ∃ q, q = x % 40 := ⟨_, rfl⟩
      have e1 : Int.tmod (x : Int) 40 = (q : Int) := by rw [hq]; exact (Int.ofNat_tmod x 40).symm
      obtain ⟨k, hk⟩ : ∃ k, k = ctk x (cutL d ls i).2 := ⟨_, rfl⟩
      have hkn : k = min q nd := by rw [hk, ctk, ← hq, ← HND.out]
      obtain ⟨oh, ch, ot, ct', s1, z1, s2, z2⟩ := cut2 _ _ k (by rw [← HND.out]; omega) wa HD.out
      rw [← HND.out] at s2 z2
      obtain ⟨v', w', r, ho, hg⟩ := run_apL wr w.heap.size i _ vs oh k ch HO.out (by omega) HB.out.size
      obtain ⟨oo', co', rfl⟩ := own_form ho
      have HB2 : Hid (Below w.heap.size w w') := HB.out.trans ⟨by rw [hg.os]; rfl, by rw [hg.tape]; rfl, by rw [hg.output]; rfl, by have := hg.size; simp at this; omega, fun j hj => by
        have hz := HB.out.size
        rw [hg.block j (by simp; omega) (fun e => by have := (HO.out.lt j e.symm).1; omega), heap_alloc_old _ _ (h := by omega)]⟩
      have HO2 : Hid (w'.ownsRow w.heap.size 23 1 (.slice oo' (i + 1) co') (i + 1) (vs ++ [.slice oh k ch])) := ho
      have hc1 : (cutL d ls (i + 1)).1 = (cutL d ls i).1 ++ [(cutL d ls i).2.take k] := by rw [cutL, ← hx, ← hk]
      have hc2 : (cutL d ls (i + 1)).2 = (cutL d ls i).2.drop k := by rw [cutL, ← hx, ← hk]
      have HP2 : Hid (Pcs (vs ++ [.slice oh k ch]) (cutL d ls (i + 1)).1 wa) := by
        rw [hc1]
        exact HP.out.snoc oh ch k _ (by rw [List.length_take, ← HND.out]; omega) z1
      have HD2 : Hid (Si .u8 (.slice ot (nd - k) ct') (cutL d ls (i + 1)).2 wa) := by rw [hc2]; exact z2
      have HND2 : Hid (nd - k = (cutL d ls (i + 1)).2.length) := by show _ = _; rw [hc2, List.length_drop, ← HND.out]
      have hcase : (¬ (q : Int) > (nd : Int) ∧ Hid (q = k)) ∨ ((q : Int) > (nd : Int) ∧ Hid (nd = k)) := by
        by_cases h : nd < q
        · exact .inr ⟨by omega, by show _ = _; omega⟩
        · exact .inl ⟨by omega, by show _ = _; omega⟩
      obtain ⟨nk, hnk⟩ : ∃ nk, nk = nd - k := ⟨_, rfl⟩
      have hnk2 : nk ≤ 1073741824 := by omega
      rw [← hnk] at s2 HD2 HND2
      clear hkn hk hq hx hcell HO HP HD HND ho hg z1 z2 hc1 hc2 HB hnk
      rcases hcase with ⟨h1, h2⟩ | ⟨h1, h2⟩
      · have h3 := h2.out
        subst h3
        clear h2
        go_wp2
        exact ⟨⟨i + 1, nk, co', ot, oo', ct', _, by rfl, rfl, rfl, by omega, HND2, hnk2, HD2, HO2, HP2, HB2⟩, by simp only [intOf]; omega⟩
      · have h3 := h2.out
        subst h3
        clear h2
        go_wp2
        exact ⟨⟨i + 1, nk, co', ot, oo', ct', _, by rfl, rfl, rfl, by omega, HND2, hnk2, HD2, HO2, HP2, HB2⟩, by simp only [intOf]; omega⟩
    · have hi1 : ¬ ((i : Int) < (ls.length : Int)) := by omega
      obtain ⟨v', w', r, ho, hg⟩ := run_apL wr w.heap.size i _ vs od nd cd HO.out (by omega) HB.out.size
      have HE : Hid (∃ vs P, w'.ownsRow w.heap.size 23 1 v' P.length vs ∧ Pcs vs P wa ∧ P.length = ls.length + 1 ∧ P.flatten = d ∧ Below w.heap.size w w') := by
        have hle := cutL_len d ls i
        refine ⟨_, (cutL d ls i).1 ++ [(cutL d ls i).2], ?_, HP.out.snoc od cd nd _ HND.out HD.out, by rw [List.length_append, hle, List.length_singleton]; omega, ?_, ?_⟩
        · rw [List.length_append, hle, List.length_singleton]; exact ho
        · have := cutL_flat d ls i
          simp only [List.flatten_append, List.flatten_cons, List.flatten_nil, List.append_nil]
          exact this
        · exact HB.out.trans ⟨by rw [hg.os]; rfl, by rw [hg.tape]; rfl, by rw [hg.output]; rfl, by have := hg.size; simp at this; omega, fun j hj => by
            have hz := HB.out.size
            rw [hg.block j (by simp; omega) (fun e => by have := (HO.out.lt j e.symm).1; omega), heap_alloc_old _ _ (h := by omega)]⟩
      clear ho hg HO HP HD HB HND hi hlt
      go_wp2
      go_ret
      obtain ⟨vs, P, z⟩ := HE.out
      exact ⟨_, rfl, vs, P, z⟩
end Go.Proofs.Ytceaklefdahfkab
