/- The document's sieve: what is held. -/
import Derived.Test.YtceaklefdahfkabSc1
import Derived.Test.YtceaklefdahfkabBg6
namespace Go.Proofs.Ytceaklefdahfkab
open Go.RowKit
def slS (v : Value) (lo hi mx : Option Value) : Sem Value := Instr.slice 9 v lo hi mx
theorem toSlS (v : Value) (lo hi mx : Option Value) : Instr.slice 9 v lo hi mx = slS v lo hi mx := rfl
theorem run_slS (s : ByteArray) (k : Nat) (h : k ≤ s.size) (w : World) : (slS (.string s) none (some (.int .i64 (k : Int))) none).run Try.prog w = .ok (.string (s.extract 0 k)) w := by
  unfold slS
  rw [run_slice_string_to_if (P := Try.prog) w 9 s .i64 (k : Int) Try.underlying9, if_pos ⟨by omega, by omega⟩]
  rfl
theorem tl_ext (s : ByteArray) (k : Nat) (_ : k ≤ s.size) : tl (s.extract 0 k) = (tl s).take k := by
  unfold tl
  rw [← List.map_take, ByteArray.data_extract, Array.toList_extract]
  simp [List.extract]
/-- A pattern with this beginning is among those with its first byte. -/
theorem fst_take (L : List (List Nat)) (k : Nat) (hk : 0 < k) (x : List Nat) (c : Nat) (hc : c = x.getD 0 0) : (∃ u ∈ L, u.take k = x) ↔ ∃ j ∈ fst L c, (L.getD j []).take k = x := by
  constructor
  · rintro ⟨u, hu, he⟩
    obtain ⟨j, hj, rfl⟩ := mem_getS hu
    refine ⟨j, List.mem_filter.2 ⟨List.mem_range.2 hj, ?_⟩, he⟩
    have : (L.getD j []).getD 0 0 = x.getD 0 0 := by rw [← he]; simp [List.getD, hk]
    rw [this, hc]; simp
  · rintro ⟨j, hj, he⟩
    exact ⟨L.getD j [], getS_mem (fst_lt L c j hj), he⟩
/-- Of no pattern nothing is held. -/
theorem held_0 (g : Nat) (lv : Value) (fv : Nat → Value) (l : List ByteArray) (F : Nat → List Nat) (p : List Nat) (pv : Value) (w : World) (h : Rf g lv fv l F 0 w) (hp : Si .u8 pv p w) : Calls Try.prog 63 #[.pointer (some ⟨g, 0, none⟩), pv] w fun e w' => e = .returned (.int .i64 0) ∧ w' = w := by
  obtain ⟨o, c, rfl, _⟩ := hp.form
  have a2 : w.cell? ⟨g, 257, none⟩ = some (.int .i64 0) := (cell_of_row w g _ _ _ _ h.row).trans (rfC_w _ _ _)
  have q : ¬ (-1 > (p.length : Int)) := by omega
  clear h hp
  go_enter Try.func63, Try.ntmps63
  go_wp2_with fail
  go_loopw [5] (fun iv wr => iv = .int .i64 (-1) ∧ wr = w) (fun _ _ => 0)
  case atStart => exact ⟨rfl, rfl⟩
  case round =>
    obtain ⟨rfl, rfl⟩ := hrel
    go_wp2
    go_ret
    exact ⟨rfl, rfl⟩
attribute [local go_sem ↓] toSlB toIxS toSlS
set_option maxRecDepth 100000 in
set_option maxHeartbeats 1600000 in
theorem held_any (g : Nat) (lv : Value) (fv : Nat → Value) (l : List ByteArray) (m : Nat) (hm : 0 < m) (hm1 : m ≤ 64) (hln : l.length ≤ 4096) (hsz : ∀ s ∈ l, s.size = m) (p : List Nat) (hpb : Byt p) (hpl : p.length ≤ 1073741824) (pv : Value) (w : World) (h : Rf g lv fv l (fst (l.map tl)) m w) (hp : Si .u8 pv p w) :
    Calls Try.prog 63 #[.pointer (some ⟨g, 0, none⟩), pv] w fun e w' => e = .returned (.int .i64 ((hld (l.map tl) p (min (m - 1) p.length) : Nat) : Int)) ∧ Below w.heap.size w w' := by
  obtain ⟨o, cap, rfl, hc1, hc2, hpf⟩ := hp.form
  have a0 : w.cell? ⟨g, 0, none⟩ = some lv := (cell_of_row w g _ _ _ _ h.row).trans (rfC_0 _ _ _)
  have a2 : w.cell? ⟨g, 257, none⟩ = some (.int .i64 (m : Int)) := (cell_of_row w g _ _ _ _ h.row).trans (rfC_w _ _ _)
  have HR : Hid _ := h
  obtain ⟨ol, cl, rfl, _, _, hlf⟩ := (own_st h.ol rfl).form
  have HLV : Hid (∀ j, j < l.length → ∃ b off, ol = some ⟨b, off, none⟩ ∧ b < w.heap.size ∧ w.cell? ⟨b, off + j, none⟩ = some (.string (txt l j))) := fun j hj => by
    obtain ⟨b, off, q1, q2, q3⟩ := hlf (by omega)
    exact ⟨b, off, q1, q2, q3 j _ (txt_get hj)⟩
  have HPF : Hid (0 < p.length → ∃ b off, o = some ⟨b, off, none⟩ ∧ b < w.heap.size ∧ ∀ j, j < p.length → w.cell? ⟨b, off + j, none⟩ = some (.int .u8 ((p.getD j 0 : Nat) : Int))) := hpf
  have HPB : Hid (Byt p) := hpb
  have HSZ : Hid (∀ s ∈ l, s.size = m) := hsz
  have gz : g < w.heap.size := h.gz
  have e1 : IntKind.i64.wrap ((m : Int) - 1) = ((m - 1 : Nat) : Int) := by rw [wi _ (by unfold I64; omega)]; omega
  obtain ⟨K, hK⟩ : ∃ K, K = min (m - 1) p.length := ⟨_, rfl⟩
  have hK1 : K ≤ m - 1 := by omega
  have hK2 : K ≤ p.length := by omega
  rw [← hK]
  have LOOP : Hid (K ≤ m - 1 ∧ K ≤ p.length) := ⟨hK1, hK2⟩
  clear h hp hpf hpb hsz hlf
  go_enter Try.func63, Try.ntmps63
  have hcase : (¬ ((m - 1 : Nat) : Int) > (p.length : Int) ∧ Hid (K = m - 1)) ∨ (((m - 1 : Nat) : Int) > (p.length : Int) ∧ Hid (K = p.length)) := by
    by_cases hq : p.length < m - 1
    · exact .inr ⟨by omega, by show _ = _; omega⟩
    · exact .inl ⟨by omega, by show _ = _; omega⟩
  obtain ⟨M1, hM1⟩ : ∃ M1, M1 = m - 1 := ⟨_, rfl⟩
  rw [← hM1] at e1 hcase hK1 LOOP
  have HM1 : Hid (M1 = m - 1) := hM1
  clear hK hM1
  rcases hcase with ⟨hq, HKE⟩ | ⟨hq, HKE⟩
  all_goals
    go_wp2_with fail
    go_loopw [5] (fun iv wr => ∃ k : Nat, iv = .int .i64 (k : Int) ∧ k ≤ K ∧ Hid (hld (l.map tl) p K = hld (l.map tl) p k) ∧ Hid (Below w.heap.size w wr)) (fun iv _ => (intOf iv).toNat)
    case atStart => exact ⟨K, by rw [HKE.out], Nat.le_refl _, rfl, Below.refl _ _⟩
    case round =>
      clear hq
      obtain ⟨k, rfl, hk, HE, HB⟩ := hrel
      by_cases hk0 : 0 < k
      · have hkz : (k : Int) > 0 := by omega
        obtain ⟨b, off, rfl, hb, hcp⟩ := HPF.out (by omega)
        have e2 : IntKind.i64.wrap ((p.length : Int) - (k : Int)) = ((p.length - k : Nat) : Int) := by rw [wi _ (by unfold I64; omega)]; omega
        have e3 : IntKind.i64.wrap ((k : Int) - 1) = ((k - 1 : Nat) : Int) := by rw [wi _ (by unfold I64; omega)]; omega
        obtain ⟨q, hqq⟩ : ∃ q, q = p.length - k := ⟨_, rfl⟩
        rw [← hqq] at e2
        have ct : ∀ W, (slB (.slice (some ⟨b, off, none⟩) p.length cap) (some (.int .i64 (q : Int))) none none).run Try.prog W = .ok (.slice (some ⟨b, off + q, none⟩) k (cap - q)) W := fun W => by
          have := run_cutL2 b off p.length cap q (by omega) hc1 W
          rw [show p.length - q = k by omega] at this
          exact this
        obtain ⟨x, hx⟩ : ∃ x, x = p.drop (p.length - k) := ⟨_, rfl⟩
        have hxl : x.length = k := by rw [hx, List.length_drop]; omega
        have hxb : Byt x := fun y hy => HPB.out y (by rw [hx] at hy; exact List.mem_of_mem_drop hy)
        have HCV : Hid (∀ W, Below w.heap.size w W → (convert 23 9 (.slice (some ⟨b, off + q, none⟩) k (cap - q))).run Try.prog W = .ok (.string (bst x)) W) := fun W hW => by
          have := conv_sub p b off cap q k hc1 hc2 (by omega) W (by have := hW.size; omega) (fun j hj => (World.cell?_of_block (w := w) (hW.block b hb)).trans (hcp j hj))
          rw [List.take_of_length_le (by rw [List.length_drop]; omega), hqq, ← hx] at this
          rw [hqq]; exact this
        have cv := HCV.out wr HB.out
        have htx := tl_bst x hxb
        have hts := bst_size x
        obtain ⟨tx, htx0⟩ : ∃ tx, tx = bst x := ⟨_, rfl⟩
        rw [← htx0] at cv htx hts HCV
        obtain ⟨c, hcx⟩ : ∃ c, c = x.getD 0 0 := ⟨_, rfl⟩
        have hc0 : c < 256 := by rw [hcx]; exact getD_byt hxb 0
        have hix : ∀ W : World, (ixS (.string tx) (.int .i64 0)).run Try.prog W = .ok (.int .u8 (c : Int)) W := fun W => by
          have := run_ixS tx 0 (by omega) W
          rw [htx, ← hcx] at this
          exact this
        have a1 : w.cell? ⟨g, 1 + c, none⟩ = some (fv c) := (cell_of_row w g _ _ _ _ HR.out.row).trans (rfC_f _ _ _ c hc0)
        obtain ⟨of', cf, hfv, _, _, hff2⟩ := (own_si (HR.out.of c hc0) rfl).form
        rw [hfv] at a1
        have HFV : Hid (∀ t, t < (fst (l.map tl) c).length → ∃ b off, of' = some ⟨b, off, none⟩ ∧ b < w.heap.size ∧ w.cell? ⟨b, off + t, none⟩ = some (.int .i64 (((fst (l.map tl) c).getD t 0 : Nat) : Int))) := fun t ht => by
          obtain ⟨b, off, q1, q2, q3⟩ := hff2 (by omega)
          exact ⟨b, off, q1, q2, q3 t ht⟩
        have HFM : Hid (∀ t, t < (fst (l.map tl) c).length → (fst (l.map tl) c).getD t 0 < l.length) := fun t ht => by
          have := fst_lt (l.map tl) c _ (getD_mem ht)
          simpa using this
        have HFL : Hid ((fst (l.map tl) c).length ≤ 4096) := by have := fst_len (l.map tl) c; rw [List.length_map] at this; exact Nat.le_trans this hln
        have HFT : Hid ((∃ u ∈ l.map tl, u.take k = x) ↔ ∃ j ∈ fst (l.map tl) c, ((l.map tl).getD j []).take k = x) := fst_take (l.map tl) k hk0 x c hcx
        generalize hFl : fst (l.map tl) c = FL at *
        have HU : Hid (hld (l.map tl) p k = if ∃ u ∈ l.map tl, u.take k = x then k else hld (l.map tl) p (k - 1)) := by
          show _ = _
          cases k with
          | zero => omega
          | succ k' => rw [hld, ← hx]; rfl
        have d1 : wr.cell? ⟨g, 1 + c, none⟩ = some (.slice of' FL.length cf) := (World.cell?_of_block (w := w) (HB.out.block g gz)).trans a1
        have hc00 : (0 : Int) ≤ (c : Int) := by omega
        have hc01 : (c : Int) < 256 := by omega
        have HTX : Hid (tl tx = x ∧ tx.size = k) := ⟨htx, by rw [hts]; exact hxl⟩
        have HQ : Hid (q = p.length - k) := hqq
        clear hff2 hfv hcp hx hcx htx0 hxl hts htx hqq hxb hFl a1
        go_wp2_with fail
        go_quiet (fail)
        go_wp2_with fail
        go_loopw [8] (fun iv wr => ∃ t : Nat, iv = .int .i64 (t : Int) ∧ t ≤ FL.length ∧ Hid (∀ j ∈ FL.take t, ¬ ((l.map tl).getD j []).take k = x) ∧ Hid (Below w.heap.size w wr)) (fun iv _ => FL.length - (intOf iv).toNat)
        case atStart => exact ⟨0, rfl, by omega, (fun j hj => by simp at hj), Below.drewN' HB.out nq⟩
        case round =>
          clear HB d1
          obtain ⟨t, rfl, ht, HN, HB⟩ := hrel
          have hfl := HFL.out
          by_cases hlt : t < FL.length
          · have ht0 : (0 : Int) ≤ (t : Int) := by omega
            have ht1 : (t : Int) < (FL.length : Int) := by omega
            have hj := HFM.out t hlt
            obtain ⟨bf, offf, rfl, hbf, hcf⟩ := HFV.out t hlt
            have hsnoc := take_snoc hlt
            have hmem : FL.getD t 0 ∈ FL := getD_mem hlt
            obtain ⟨j, hj0⟩ : ∃ j, j = FL.getD t 0 := ⟨_, rfl⟩
            rw [← hj0] at hj hcf hsnoc hmem
            obtain ⟨bl, offl, rfl, hbl, hcl⟩ := HLV.out j hj
            have k0 : wr.cell? ⟨g, 0, none⟩ = some (.slice (some ⟨bl, offl, none⟩) l.length cl) := (World.cell?_of_block (w := w) (HB.out.block g gz)).trans a0
            have kf : wr.cell? ⟨bf, offf + t, none⟩ = some (.int .i64 (j : Int)) := (World.cell?_of_block (w := w) (HB.out.block bf hbf)).trans hcf
            have kl : wr.cell? ⟨bl, offl + j, none⟩ = some (.string (txt l j)) := (World.cell?_of_block (w := w) (HB.out.block bl hbl)).trans hcl
            have hjz : (0 : Int) ≤ (j : Int) := by omega
            have hjl : (j : Int) < (l.length : Int) := by omega
            have hLj : (l.map tl).getD j [] = tl (txt l j) := by rw [txt_eq hj]; simp [List.getD, hj]
            have hks : k ≤ (txt l j).size := by rw [HSZ.out _ (List.mem_of_getElem? (txt_get hj))]; have := HM1.out; omega
            have hsl := run_slS (txt l j) k hks
            have hte := tl_ext (txt l j) k hks
            by_cases hab : (txt l j).extract 0 k = tx
            · have HE2 : Hid (hld (l.map tl) p K = k) := by
                show _ = _
                rw [HE.out, HU.out, if_pos]
                refine HFT.out.2 ⟨j, hmem, ?_⟩
                rw [hLj, ← hte, hab]; exact HTX.out.1
              rw [hab] at hsl
              clear hLj hsnoc hcf hcl hj0 HN HFM HFV HLV HFT hab hte HU HE hks hmem
              generalize txt l j = tj at *
              go_wp2_with fail
              go_quiet (fail)
              go_wp2
              go_ret
              exact ⟨by rw [HE2.out]; rfl, Below.drewN' HB.out _⟩
            · have HN2 : Hid (∀ j ∈ FL.take (t + 1), ¬ ((l.map tl).getD j []).take k = x) := fun i hi => by
                rw [hsnoc] at hi
                rcases List.mem_append.1 hi with h1 | h1
                · exact HN.out i h1
                · rw [List.mem_singleton] at h1
                  rw [h1, hLj, ← hte]
                  exact fun h2 => hab (tl_inj (by rw [h2]; exact HTX.out.1.symm))
              have hab' := str_off hab
              clear hLj hsnoc hcf hcl hj0 HN hab hte hks hmem
              generalize (txt l j).extract 0 k = ts at *
              generalize txt l j = tj at *
              go_wp2_with fail
              go_quiet (fail)
              go_wp2
              exact ⟨⟨t + 1, by rfl, by omega, HN2, Below.drewN' HB.out _⟩, by simp only [intOf]; omega⟩
          · have ht1 : ¬ ((t : Int) < (FL.length : Int)) := by omega
            have HE2 : Hid (hld (l.map tl) p K = hld (l.map tl) p (k - 1)) := by
              show _ = _
              rw [HE.out, HU.out, if_neg]
              intro h1
              obtain ⟨j, hj, he⟩ := HFT.out.1 h1
              have hnn := HN.out
              rw [List.take_of_length_le (show FL.length ≤ t by omega)] at hnn
              exact hnn j hj he
            clear HE HU HFT HN HCV cv
            go_wp2
            exact ⟨⟨k - 1, by rfl, by omega, HE2, HB⟩, by simp only [intOf]; omega⟩
      · have hkz : ¬ ((k : Int) > 0) := by omega
        have HE2 : Hid (hld (l.map tl) p K = 0) := by
          show _ = _
          rw [HE.out, show k = 0 by omega]; rfl
        clear HE
        go_wp2
        go_ret
        exact ⟨by rw [HE2.out]; rfl, HB.out⟩
end Go.Proofs.Ytceaklefdahfkab
