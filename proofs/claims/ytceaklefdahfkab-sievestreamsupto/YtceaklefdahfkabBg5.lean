/- SieveBegins: the document's New. -/
import Derived.Test.YtceaklefdahfkabBg4
import Derived.Lib.ConvBytes
import Derived.BigRegion
namespace Go.Proofs.Ytceaklefdahfkab
open Go.RowKit
theorem conv_sb (w : World) (s : ByteArray) (hs : s.size ≤ 1073741824) : ∃ v w', (convert 9 23 (.string s)).run Try.prog w = .ok v w' ∧ Si .u8 v (tl s) w' ∧ Below w.heap.size w w' := by
  refine ⟨_, _, Lib.run_convert_string_bytes (P := Try.prog) w 9 23 5 s Try.underlying9 Try.underlying23 Try.underlying5, ?_, ?_⟩
  · refine .inr ⟨w.heap.size, 0, _, by rw [tl_len], by rw [tl_len]; exact grownCap_ge _ _ _ _, grownCap_le_maxLen _ _ _ _ (by unfold maxLen; omega), by rw [Lib.bytesWorld_size]; omega, fun j hj => ?_⟩
    rw [tl_len] at hj
    rw [Nat.zero_add, Lib.bytesWorld_cell w 5 s j hj]
    have : (tl s).getD j 0 = (s.data.toList.getD j 0).toNat := by
      unfold tl
      have h2 : j < s.data.size := hj
      simp only [List.getD, List.getElem?_map, Array.getElem?_toList, Array.getElem?_eq_getElem h2]
      rfl
    rw [this]
  · exact ⟨rfl, rfl, rfl, by rw [Lib.bytesWorld_size]; omega, fun k hk => Lib.bytesWorld_at_old w 5 s k hk⟩
/-- What the document's New hands out. -/
def RNew (l : List ByteArray) (w : World) (e : Ending) (w' : World) : Prop :=
  (4096 < l.length ∧ e = .returned (.tuple #[.pointer none, .int .i64 1])) ∨
  (l.length ≤ 4096 ∧ (wdO l).2 = false ∧ e = .returned (.tuple #[.pointer none, .int .i64 50])) ∨
  (l.length ≤ 4096 ∧ (wdO l).2 = true ∧ ¬ (l.map tl).Nodup ∧ e = .returned (.tuple #[.pointer none, .int .i64 51])) ∨
  (l.length ≤ 4096 ∧ (wdO l).2 = true ∧ (l.map tl).Nodup ∧ ∃ g, e = .returned (.tuple #[.pointer (some ⟨g, 0, none⟩), .int .i64 0]) ∧ w.heap.size ≤ g ∧ ∃ lv fv, Rf g lv fv l (fst (l.map tl)) (wdO l).1 w')
theorem wdO_bad {l : List ByteArray} {i : Nat} (hi : i < l.length) (h : (txt l i).size = 0 ∨ 64 < (txt l i).size ∨ (txt l i).size ≠ (txt l 0).size) : (wdO l).2 = false := by
  cases l with
  | nil => simp at hi
  | cons s r =>
    cases hq : (wdO (s :: r)).2 with
    | false => rfl
    | true =>
      exfalso
      have h2 : (decide (0 < s.size) && (decide (s.size ≤ 64) && allW s.size (s :: r))) = true := hq
      simp only [Bool.and_eq_true, decide_eq_true_iff] at h2
      have h3 : (txt (s :: r) i).size = s.size := by
        have := List.all_eq_true.1 h2.2.2 _ (List.mem_of_getElem? (txt_get hi))
        simpa using this
      have h4 : txt (s :: r) 0 = s := rfl
      rw [h3, h4] at h
      omega
theorem wdO_good {l : List ByteArray} (h : ∀ i, i < l.length → 0 < (txt l i).size ∧ (txt l i).size ≤ 64 ∧ (txt l i).size = (txt l 0).size) : (wdO l).2 = true ∧ (wdO l).1 = if l.length = 0 then 0 else (txt l 0).size := by
  cases l with
  | nil => exact ⟨rfl, rfl⟩
  | cons s r =>
    have h0 := h 0 (by simp)
    have h4 : txt (s :: r) 0 = s := rfl
    rw [h4] at h0
    refine ⟨?_, by rw [if_neg (by simp), h4]; rfl⟩
    show (decide (0 < s.size) && (decide (s.size ≤ 64) && allW s.size (s :: r))) = true
    rw [decide_eq_true h0.1, decide_eq_true h0.2.1]
    simp only [Bool.true_and]
    unfold allW
    rw [List.all_eq_true]
    intro t ht
    obtain ⟨i, hi, rfl⟩ := List.mem_iff_getElem.1 ht
    have := (h i hi).2.2
    rw [txt_eq hi, h4] at this
    simpa using this
attribute [local go_sem ↓] toApS toApN toIxS
set_option maxRecDepth 100000 in
set_option maxHeartbeats 3200000 in
theorem newR_any (l : List ByteArray) (hl : l.length ≤ 1073741824) (hz : ∀ s ∈ l, s.size ≤ 1073741824) (v : Value) (w : World) (hv : St v l w) :
    Calls Try.prog 61 #[v] w fun e w' => RNew l w e w' ∧ Below w.heap.size w w' := by
  obtain ⟨o, c, rfl, _, _, hf⟩ := hv.form
  have HF : Hid (∀ j, j < l.length → ∃ b off, o = some ⟨b, off, none⟩ ∧ b < w.heap.size ∧ w.cell? ⟨b, off + j, none⟩ = some (.string (txt l j))) := fun j hj => by
    obtain ⟨b, off, q1, q2, q3⟩ := hf (by omega)
    exact ⟨b, off, q1, q2, q3 j _ (txt_get hj)⟩
  have HZ : Hid (∀ j, j < l.length → (txt l j).size ≤ 1073741824) := fun j hj => hz _ (List.mem_of_getElem? (txt_get hj))
  clear hv hf hz
  by_cases h1 : 4096 < l.length
  · have h1' : (4096 : Int) < (l.length : Int) := by omega
    go_enter Try.func61, Try.ntmps61
    go_wp2
    go_ret2
    exact ⟨.inl ⟨h1, rfl⟩, Below.refl _ _⟩
  have h1' : ¬ ((4096 : Int) < (l.length : Int)) := by omega
  have h1n : l.length ≤ 4096 := by omega
  obtain ⟨W1, hW1⟩ : ∃ W1, w.alloc (.cells Try.zeroCells108 108) = W1 := ⟨_, rfl⟩
  have HR1 : Hid (W1.heap[w.heap.size]? = some (.cells (rfC (.slice none 0 0) (fun _ => .slice none 0 0) 0) 108 (0, 0))) := by
    show _ = _
    rw [← hW1, ← zero95]; exact heap_alloc_new _ _
  have HB1 : Hid (Below w.heap.size w W1) := by rw [← hW1]; exact (Below.refl _ w).alloc (Nat.le_refl _) _
  obtain ⟨g, hg⟩ : ∃ g, g = w.heap.size := ⟨_, rfl⟩
  have HG : Hid (g = w.heap.size) := hg
  rw [← hg] at HR1 HB1 ⊢
  go_enter Try.func61, Try.ntmps61
  go_wp2_with fail
  rw [← hg]
  clear hW1 hg
  go_loopw [5] (fun iv wr => ∃ i : Nat, iv = .int .i64 (i : Int) ∧ i ≤ l.length ∧ Hid (∀ j, j < i → 0 < (txt l j).size ∧ (txt l j).size ≤ 64 ∧ (txt l j).size = (txt l 0).size) ∧ Hid (wr.heap[g]? = some (.cells (rfC (.slice none 0 0) (fun _ => .slice none 0 0) (if i = 0 then 0 else (txt l 0).size)) 108 (0, 0))) ∧ Hid (Below g w wr)) (fun iv _ => l.length - (intOf iv).toNat)
  case atStart => exact ⟨0, rfl, by omega, fun j hj => by omega, HR1, HB1⟩
  case round =>
    clear HR1 HB1
    obtain ⟨i, rfl, hi, HGD, HR, HB⟩ := hrel
    by_cases hlt : i < l.length
    · have hi0 : (0 : Int) ≤ (i : Int) := by omega
      have hi1 : (i : Int) < (l.length : Int) := by omega
      obtain ⟨b, off, rfl, hb, hcs⟩ := HF.out i hlt
      have kp : wr.cell? ⟨b, off + i, none⟩ = some (.string (txt l i)) := (World.cell?_of_block (w := w) (HB.out.block b (by rw [HG.out]; exact hb))).trans hcs
      have hsz := HZ.out i hlt
      have HBAD : Hid ((txt l i).size = 0 ∨ 64 < (txt l i).size ∨ (txt l i).size ≠ (txt l 0).size → (wdO l).2 = false) := fun h => wdO_bad hlt h
      clear hcs
      rcases Nat.eq_zero_or_pos i with hi00 | hi00
      · subst hi00
        rw [if_pos rfl] at HR
        have cw : wr.cell? ⟨g, 257, none⟩ = some (.int .i64 0) := (cell_of_row wr g _ _ _ _ HR.out).trans (rfC_w _ _ _)
        have fw : wr.frozen? ⟨g, 257, none⟩ = false := frozen_of_row wr _ _ _ _ HR.out
        obtain ⟨W2, hW2⟩ : ∃ W2, wr.setCell ⟨g, 257, none⟩ (.int .i64 ((txt l 0).size : Int)) = W2 := ⟨_, rfl⟩
        have HR2 : Hid (W2.heap[g]? = some (.cells (rfC (.slice none 0 0) (fun _ => .slice none 0 0) (txt l 0).size) 108 (0, 0))) := by
          show _ = _
          rw [← hW2, ← rfC_sw _ _ 0]; exact heap_setCell_same _ _ _ _ _ _ HR.out
        have HB2 : Hid (Below g w W2) := by rw [← hW2]; exact HB.out.setCell (Nat.le_refl _) _
        have HBW : Hid (Below w.heap.size w W2) := by rw [← HG.out]; exact HB2.out
        have c2 : W2.cell? ⟨g, 257, none⟩ = some (.int .i64 ((txt l 0).size : Int)) := (cell_of_row W2 g _ _ _ _ HR2.out).trans (rfC_w _ _ _)
        simp only [Nat.add_zero] at kp
        by_cases b1 : (txt l 0).size = 0
        · have HW : Hid ((wdO l).2 = false) := HBAD.out (.inl b1)
          have b1' : (((txt l 0).size : Int) == 0) = true := beq_iff_eq.2 (by omega)
          clear HBAD HGD HR HB b1
          generalize txt l 0 = s0 at *
          go_wp2
          go_ret2
          exact ⟨.inr (.inl ⟨h1n, HW.out, rfl⟩), by rw [HG.out]; exact HBW.out⟩
        · have b1' : ((((txt l 0).size : Nat) : Int) == 0) = false := beq_eq_false_iff_ne.2 (by omega)
          have b1n : ¬ (((txt l 0).size : Int) = 0) := by omega
          by_cases b2 : 64 < (txt l 0).size
          · have HW : Hid ((wdO l).2 = false) := HBAD.out (.inr (.inl b2))
            have b2' : (64 : Int) < ((txt l 0).size : Int) := by omega
            clear HBAD HGD HR HB
            generalize txt l 0 = s0 at *
            go_wp2
            go_ret2
            exact ⟨.inr (.inl ⟨h1n, HW.out, rfl⟩), by rw [HG.out]; exact HBW.out⟩
          · have b2' : ¬ ((64 : Int) < ((txt l 0).size : Int)) := by omega
            have HGD2 : Hid (∀ j, j < 0 + 1 → 0 < (txt l j).size ∧ (txt l j).size ≤ 64 ∧ (txt l j).size = (txt l 0).size) := fun j hj => by
              have : j = 0 := by omega
              subst this
              exact ⟨by omega, by omega, rfl⟩
            have HR3 : Hid (W2.heap[g]? = some (.cells (rfC (.slice none 0 0) (fun _ => .slice none 0 0) (if 0 + 1 = 0 then 0 else (txt l 0).size)) 108 (0, 0))) := by rw [if_neg (by omega)]; exact HR2.out
            clear HBAD HGD HR HB HR2 HBW
            obtain ⟨n, hn⟩ : ∃ n, n = (txt l 0).size := ⟨_, rfl⟩
            go_wp2
            exact ⟨⟨1, by rfl, by omega, HGD2, HR3, HB2⟩, by simp only [intOf]; omega⟩
      · rw [if_neg (by omega)] at HR
        have hib : ((i : Int) == 0) = false := by simp; omega
        have hin : ¬ ((i : Int) = 0) := by omega
        have cw : wr.cell? ⟨g, 257, none⟩ = some (.int .i64 ((txt l 0).size : Int)) := (cell_of_row wr g _ _ _ _ HR.out).trans (rfC_w _ _ _)
        have HBW : Hid (Below w.heap.size w wr) := by rw [← HG.out]; exact HB.out
        by_cases b1 : (txt l i).size = 0
        · have HW : Hid ((wdO l).2 = false) := HBAD.out (.inl b1)
          have b1' : (((txt l i).size : Int) == 0) = true := beq_iff_eq.2 (by omega)
          clear HBAD HGD HR HB b1
          generalize txt l i = s0 at *
          go_wp2
          go_ret2
          exact ⟨.inr (.inl ⟨h1n, HW.out, rfl⟩), by rw [HG.out]; exact HBW.out⟩
        · have b1' : ((((txt l i).size : Nat) : Int) == 0) = false := beq_eq_false_iff_ne.2 (by omega)
          have b1n : ¬ (((txt l i).size : Int) = 0) := by omega
          by_cases b2 : 64 < (txt l i).size
          · have HW : Hid ((wdO l).2 = false) := HBAD.out (.inr (.inl b2))
            have b2' : (64 : Int) < ((txt l i).size : Int) := by omega
            clear HBAD HGD HR HB
            generalize txt l i = s0 at *
            go_wp2
            go_ret2
            exact ⟨.inr (.inl ⟨h1n, HW.out, rfl⟩), by rw [HG.out]; exact HBW.out⟩
          · have b2' : ¬ ((64 : Int) < ((txt l i).size : Int)) := by omega
            by_cases b3 : (txt l i).size = (txt l 0).size
            · have b3' : ((txt l i).size : Int) = ((txt l 0).size : Int) := by omega
              have HGD2 : Hid (∀ j, j < i + 1 → 0 < (txt l j).size ∧ (txt l j).size ≤ 64 ∧ (txt l j).size = (txt l 0).size) := fun j hj => by
                by_cases hji : j = i
                · subst hji; exact ⟨by omega, by omega, b3⟩
                · exact HGD.out j (by omega)
              have HR3 : Hid (wr.heap[g]? = some (.cells (rfC (.slice none 0 0) (fun _ => .slice none 0 0) (if i + 1 = 0 then 0 else (txt l 0).size)) 108 (0, 0))) := by rw [if_neg (by omega)]; exact HR.out
              rw [← b3] at cw
              clear HBAD HGD HR HBW b3 b3'
              generalize hs1 : (txt l i) = s1 at kp cw b1 b1' b1n b2 b2'
              clear hs1
              go_wp2
              exact ⟨⟨i + 1, by rfl, by omega, HGD2, HR3, HB⟩, by simp only [intOf]; omega⟩
            · have HW : Hid ((wdO l).2 = false) := HBAD.out (.inr (.inr b3))
              have b3' : ¬ (((txt l i).size : Int) = ((txt l 0).size : Int)) := by omega
              clear HBAD HGD HR HB
              generalize txt l i = s0 at *
              generalize (txt l 0).size = n0 at *
              go_wp2
              go_ret2
              exact ⟨.inr (.inl ⟨h1n, HW.out, rfl⟩), by rw [HG.out]; exact HBW.out⟩
    · have hi1 : ¬ ((i : Int) < (l.length : Int)) := by omega
      have hie : i = l.length := by omega
      subst hie
      obtain ⟨hw2, hw1⟩ := wdO_good HGD.out
      rw [← hw1] at HR
      have HW2 : Hid ((wdO l).2 = true) := hw2
      obtain ⟨m, hm⟩ : ∃ m, m = (wdO l).1 := ⟨_, rfl⟩
      rw [← hm] at HR
      have HM : Hid (m = (wdO l).1) := hm
      have HSZ : Hid (∀ j, j < l.length → (txt l j).size = m ∧ 0 < m ∧ m ≤ 64) := fun j hj => by
        have h := HGD.out j hj
        rw [if_neg (by omega)] at hw1
        rw [hm, hw1]
        omega
      have R0 : Rf g (.slice none 0 0) (fun _ => .slice none 0 0) (l.take 0) (fst ((l.take 0).map tl)) m wr := by
        refine ⟨HR.out, World.ownsRow_nil _ _ _ _, fun c _ => ?_, (fun c _ k hk => by cases hk), (fun c d _ _ _ k hk => by cases hk)⟩
        have : fst ((l.take 0).map tl) c = [] := by simp [fst]
        rw [this]
        exact World.ownsRow_nil _ _ _ _
      have HR0 : Hid _ := R0
      clear R0 HR HGD hw2 hw1 hm
      go_wp2_with fail
      go_loopw [7] (fun iv wr => ∃ (i : Nat) (lv : Value) (fv : Nat → Value), iv = .int .i64 (i : Int) ∧ i ≤ l.length ∧ Hid (Rf g lv fv (l.take i) (fst ((l.take i).map tl)) m wr) ∧ Hid (((l.take i).map tl).Nodup) ∧ Hid (Below g w wr)) (fun iv _ => l.length - (intOf iv).toNat)
      case atStart => exact ⟨0, _, _, rfl, by omega, HR0, List.nodup_nil, HB⟩
      case round =>
        clear HR0 HB
        obtain ⟨i, lv, fv, rfl, hi, HRF, HND, HB⟩ := hrel
        by_cases hlt : i < l.length
        · have hi0 : (0 : Int) ≤ (i : Int) := by omega
          have hi1 : (i : Int) < (l.length : Int) := by omega
          obtain ⟨b, off, rfl, hb, hcs⟩ := HF.out i hlt
          have kp : wr.cell? ⟨b, off + i, none⟩ = some (.string (txt l i)) := (World.cell?_of_block (w := w) (HB.out.block b (by rw [HG.out]; exact hb))).trans hcs
          obtain ⟨hsz, hm0, hm64⟩ := HSZ.out i hlt
          obtain ⟨pv, Wc, rcv, hpv, hbc⟩ := conv_sb wr (txt l i) (by omega)
          have htk : (tl (txt l i)).take m = tl (txt l i) := List.take_of_length_le (by rw [tl_len]; omega)
          have hlen : (l.take i).length = i := by rw [List.length_take]; omega
          have hBg : g < wr.heap.size := HRF.out.gz
          have CA : Hid (Calls Try.prog 80 #[.pointer (some ⟨g, 0, none⟩), pv] Wc fun e w' => e = .returned (.int .i64 (atV ((l.take i).map tl) (tl (txt l i)))) ∧ Hid (Rf g lv fv (l.take i) (fst ((l.take i).map tl)) m w') ∧ Hid (Below g w w')) := by
            have := at_any g lv fv (l.take i) m hm0 hm64 (by omega) HND.out (tl (txt l i)) (tl_byt _) (by rw [tl_len]; omega) (by rw [tl_len]; omega) pv Wc (HRF.out.below hbc) hpv
            rw [htk] at this
            refine this.mono fun e w' ⟨h1, h2⟩ => ⟨h1, (HRF.out.below hbc).below h2, ?_⟩
            have hbw : Below g w Wc := HB.out.trans (hbc.mono (by omega))
            exact hbw.trans (h2.mono (by have := hbc.size; omega))
          have hsn : l.take (i + 1) = l.take i ++ [txt l i] := by
            rw [List.take_succ_eq_append_getElem hlt, txt_eq hlt]
          have hmp : (l.take (i + 1)).map tl = (l.take i).map tl ++ [tl (txt l i)] := by rw [hsn, List.map_append]; rfl
          by_cases hin : tl (txt l i) ∈ (l.take i).map tl
          · have hk : atV ((l.take i).map tl) (tl (txt l i)) = ((((l.take i).map tl).idxOf (tl (txt l i)) : Nat) : Int) := by rw [atV, if_pos hin]
            rw [hk] at CA
            have HNN : Hid (¬ (l.map tl).Nodup) := fun hnd => by
              have h2 : (l.map tl) = (l.take (i + 1)).map tl ++ (l.drop (i + 1)).map tl := by rw [← List.map_append, List.take_append_drop]
              rw [h2, hmp, List.append_assoc] at hnd
              have h3 := (List.nodup_append.1 hnd).2.2 _ hin (tl (txt l i)) (by simp)
              exact h3 rfl
            generalize ((l.take i).map tl).idxOf (tl (txt l i)) = kk at CA
            have hk0 : (0 : Int) ≤ (kk : Int) := by omega
            clear hk hin hcs hpv hbc HRF HND HB htk
            generalize txt l i = s1 at kp rcv
            go_wp2_with fail
            refine Calls.mono CA.out ?_
            rintro e Wd ⟨rfl, HRd, HBd⟩
            go_wp2
            go_ret2
            exact ⟨.inr (.inr (.inl ⟨h1n, HW2.out, HNN.out, rfl⟩)), by rw [HG.out] at HBd; rw [HG.out]; exact HBd.out⟩
          · have hk : atV ((l.take i).map tl) (tl (txt l i)) = -1 := by rw [atV, if_neg hin]
            rw [hk] at CA
            have HND2 : Hid (((l.take (i + 1)).map tl).Nodup) := by
              show List.Nodup _
              rw [hmp]
              refine List.nodup_append.2 ⟨HND.out, by simp, fun a ha b hb => ?_⟩
              rw [List.mem_singleton.1 hb]
              exact fun e => hin (e ▸ ha)
            have c256 : (tl (txt l i)).getD 0 0 < 256 := getD_byt (tl_byt _) 0
            have hix : ∀ W : World, (ixS (.string (txt l i)) (.int .i64 0)).run Try.prog W = .ok (.int .u8 (((tl (txt l i)).getD 0 0 : Nat) : Int)) W := fun W => run_ixS (txt l i) 0 (by omega) W
            obtain ⟨cc, hcc⟩ : ∃ cc, cc = (tl (txt l i)).getD 0 0 := ⟨_, rfl⟩
            rw [← hcc] at c256 hix
            have ADD : Hid (∀ Wd, Rf g lv fv (l.take i) (fst ((l.take i).map tl)) m Wd → Below g w Wd → ∃ (o' : Option Addr) (n' c' : Nat) (w' : World), Wd.cell? ⟨g, 0, none⟩ = some lv ∧ (apS 22 #[lv, .slice (some ⟨Wd.heap.size, 0, none⟩) 1 1]).run Try.prog (Wd.alloc (.cells #[.string (txt l i)] 9)) = .ok (.slice o' n' c') w' ∧ w'.cell? ⟨g, 0, none⟩ = some lv ∧ w'.frozen? ⟨g, 0, none⟩ = false ∧ Hid (Rf g (.slice o' n' c') fv (l.take (i + 1)) (fst ((l.take i).map tl)) m (w'.setCell ⟨g, 0, none⟩ (.slice o' n' c')) ∧ Below g w (w'.setCell ⟨g, 0, none⟩ (.slice o' n' c')))) := fun Wd h hb => by
              obtain ⟨v', w', r, q1, q2, q3, q4⟩ := h.addL (txt l i) (by omega)
              obtain ⟨o', c', rfl⟩ := own_size q3.ol
              exact ⟨o', _, c', w', (cell_of_row Wd g _ _ _ _ h.row).trans (rfC_0 _ _ _), r, q1, q2, by rw [hsn]; exact q3, hb.trans (q4 g (Nat.le_refl _))⟩
            have ADF : Hid (∀ (lv : Value) (D : World), Rf g lv fv (l.take (i + 1)) (fst ((l.take i).map tl)) m D → Below g w D → ∃ (o' : Option Addr) (n' c' : Nat) (w' : World), D.cell? ⟨g, 1 + cc, none⟩ = some (fv cc) ∧ (D.alloc (.cells #[.int .i64 (i : Int)] 3)).cell? ⟨g, 1 + cc, none⟩ = some (fv cc) ∧ (apN 81 #[fv cc, .slice (some ⟨D.heap.size, 0, none⟩) 1 1]).run Try.prog (D.alloc (.cells #[.int .i64 (i : Int)] 3)) = .ok (.slice o' n' c') w' ∧ w'.cell? ⟨g, 1 + cc, none⟩ = some (fv cc) ∧ w'.frozen? ⟨g, 1 + cc, none⟩ = false ∧ Hid (Rf g lv (upd fv cc (.slice o' n' c')) (l.take (i + 1)) (fst ((l.take (i + 1)).map tl)) m (w'.setCell ⟨g, 1 + cc, none⟩ (.slice o' n' c')) ∧ Below g w (w'.setCell ⟨g, 1 + cc, none⟩ (.slice o' n' c')))) := fun lv D h hb => by
              have hfl := fst_len ((l.take i).map tl) cc
              rw [List.length_map, hlen] at hfl
              obtain ⟨v', w', r, q1, q2, q3, q4⟩ := h.addF cc c256 i (by omega)
              have e1 : (fun d => if d = cc then fst ((l.take i).map tl) cc ++ [i] else fst ((l.take i).map tl) d) = fst ((l.take (i + 1)).map tl) := by
                funext d
                rw [hmp, fst_snoc, ← hcc, List.length_map, hlen]
              rw [e1] at q3
              obtain ⟨o', c', hv'⟩ := own_size (q3.of cc c256)
              simp only [upd, if_true] at hv'
              subst hv'
              have k1 : D.cell? ⟨g, 1 + cc, none⟩ = some (fv cc) := (cell_of_row D g _ _ _ _ h.row).trans (rfC_f _ _ _ cc c256)
              exact ⟨o', _, c', w', k1, (World.cell?_of_block (w := D) (heap_alloc_old D _ (show g < D.heap.size from h.gz))).trans k1, r, q1, q2, q3, hb.trans (q4 g (Nat.le_refl _))⟩
            have hc0 : (0 : Int) ≤ (cc : Int) := by omega
            have hc1 : (cc : Int) < 256 := by omega
            clear hk hin hcs hpv hbc HRF HND HB htk hsn hmp hlen hcc hBg
            generalize txt l i = s1 at kp rcv ADD hix
            go_wp2_with fail
            refine Calls.mono CA.out ?_
            rintro e Wd ⟨rfl, HRd, HBd⟩
            obtain ⟨o', n', c', w', k0, r1, k1, k2, HE⟩ := ADD.out Wd HRd.out HBd.out
            obtain ⟨W3, hW3⟩ : ∃ W3, w'.setCell ⟨g, 0, none⟩ (.slice o' n' c') = W3 := ⟨_, rfl⟩
            rw [hW3] at HE
            clear HRd HBd ADD CA
            obtain ⟨D3, hD3⟩ : ∃ D3, W3.drew = D3 := ⟨_, rfl⟩
            have HED : Hid (Rf g (.slice o' n' c') fv (l.take (i + 1)) (fst ((l.take i).map tl)) m D3 ∧ Below g w D3) := by
              rw [← hD3]
              exact ⟨HE.out.1.keep fun _ _ _ => rfl, Below.drewN' HE.out.2 1⟩
            obtain ⟨o5, n5, c5, w5, j0, j1, r2, j2, j3, HE2⟩ := ADF.out (.slice o' n' c') D3 HED.out.1 HED.out.2
            obtain ⟨W5, hW5⟩ : ∃ W5, w5.setCell ⟨g, 1 + cc, none⟩ (.slice o5 n5 c5) = W5 := ⟨_, rfl⟩
            rw [hW5] at HE2
            clear HE HED ADF
            go_wp2_with fail
            go_big_region
            go_wp2
            exact ⟨⟨i + 1, _, _, by rfl, by omega, HE2.out.1, HND2, HE2.out.2⟩, by simp only [intOf]; omega⟩
        · have hi1 : ¬ ((i : Int) < (l.length : Int)) := by omega
          have hie : i = l.length := by omega
          subst hie
          have HE : Hid (RNew l w (.returned (.tuple #[.pointer (some ⟨g, 0, none⟩), .int .i64 0])) wr) := by
            have h1 := HRF.out
            have h2 := HND.out
            rw [List.take_length] at h1 h2
            rw [HM.out] at h1
            exact .inr (.inr (.inr ⟨h1n, HW2.out, h2, g, rfl, by rw [HG.out]; exact Nat.le_refl _, lv, fv, h1⟩))
          clear HRF HND
          go_wp2
          go_ret2
          exact ⟨HE.out, HB.out⟩
end Go.Proofs.Ytceaklefdahfkab
