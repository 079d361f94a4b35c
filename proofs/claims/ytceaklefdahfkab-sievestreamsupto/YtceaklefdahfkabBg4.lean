/- SieveBegins: the document's at. -/
import Derived.Test.YtceaklefdahfkabBg3
namespace Go.Proofs.Ytceaklefdahfkab
open Go.RowKit
/-- The numbers by first byte. -/
def fst (L : List (List Nat)) (c : Nat) : List Nat := (List.range L.length).filter fun j => (L.getD j []).getD 0 0 == c
/-- The pattern at the head, or -1. -/
def atV (L : List (List Nat)) (x : List Nat) : Int := if x ∈ L then ((L.idxOf x : Nat) : Int) else -1
theorem fst_find (L : List (List Nat)) (hn : L.Nodup) (x : List Nat) : (fst L (x.getD 0 0)).find? (fun j => L.getD j [] == x) = if x ∈ L then some (L.idxOf x) else none := by
  unfold fst
  rw [List.find?_filter]
  have e : (fun a => decide (((L.getD a []).getD 0 0 == x.getD 0 0) = true ∧ (L.getD a [] == x) = true)) = fun j => L.getD j [] == x := by
    funext j
    by_cases h : L.getD j [] = x
    · simp only [h, beq_self_eq_true, and_self, decide_true]
    · have h2 : (L.getD j [] == x) = false := beq_eq_false_iff_ne.2 h
      rw [h2]
      simp
  rw [e]
  by_cases hx : x ∈ L
  · rw [if_pos hx]
    have hi := List.idxOf_lt_length_of_mem hx
    rw [List.find?_range_eq_some]
    have hg : L.getD (L.idxOf x) [] = x := by
      have := List.getElem_idxOf hi
      simp only [List.getD, List.getElem?_eq_getElem hi, Option.getD_some]; exact this
    refine ⟨by rw [hg]; simp, List.mem_range.2 hi, fun j hj => ?_⟩
    have hj2 : j < L.length := by omega
    have hne : ¬ L.getD j [] = x := fun h => by
      have e1 : L.getD j [] = L[j] := by simp [List.getD, hj2]
      rw [e1] at h
      have := (List.getElem_inj (h₀ := hj2) (h₁ := hi) hn).1 (h.trans (List.getElem_idxOf hi).symm)
      omega
    simpa using hne
  · rw [if_neg hx, List.find?_eq_none]
    intro j hj h
    have hj2 := List.mem_range.1 hj
    have e1 : L.getD j [] = L[j] := by simp [List.getD, hj2]
    rw [beq_iff_eq, e1] at h
    exact hx (h ▸ List.getElem_mem hj2)
theorem fst_lt (L : List (List Nat)) (c j : Nat) (h : j ∈ fst L c) : j < L.length := List.mem_range.1 (List.mem_filter.1 h).1
theorem fst_len (L : List (List Nat)) (c : Nat) : (fst L c).length ≤ L.length := by
  have := List.length_filter_le (fun j => (L.getD j []).getD 0 0 == c) (List.range L.length)
  rw [List.length_range] at this
  exact this
theorem fst_snoc (L : List (List Nat)) (x : List Nat) (d : Nat) : fst (L ++ [x]) d = if d = x.getD 0 0 then fst L (x.getD 0 0) ++ [L.length] else fst L d := by
  unfold fst
  rw [List.length_append, List.length_singleton, List.range_succ, List.filter_append]
  have e1 : ∀ c, (List.range L.length).filter (fun j => ((L ++ [x]).getD j []).getD 0 0 == c) = (List.range L.length).filter fun j => (L.getD j []).getD 0 0 == c := fun c => by
    apply List.filter_congr
    intro j hj
    have := List.mem_range.1 hj
    have : (L ++ [x]).getD j [] = L.getD j [] := by simp only [List.getD, List.getElem?_append_left this]
    rw [this]
  have e2 : (L ++ [x]).getD L.length [] = x := by simp [List.getD]
  rw [e1]
  by_cases h : d = x.getD 0 0
  · rw [if_pos h]
    subst h
    simp
  · rw [if_neg h]
    simp only [List.filter_cons, e2, List.filter_nil]
    rw [if_neg (by simpa using fun h2 => h h2.symm), List.append_nil]
attribute [local go_sem ↓] toSlB
set_option maxRecDepth 100000 in
set_option maxHeartbeats 1600000 in
theorem at_any (g : Nat) (lv : Value) (fv : Nat → Value) (l : List ByteArray) (m : Nat) (hm : 0 < m) (hm1 : m ≤ 64) (hln : l.length ≤ 4096) (hnd : (l.map tl).Nodup) (p : List Nat) (hpb : Byt p) (hpl : p.length ≤ 1073741824) (hpm : m ≤ p.length) (pv : Value) (w : World) (h : Rf g lv fv l (fst (l.map tl)) m w) (hp : Si .u8 pv p w) :
    Calls Try.prog 80 #[.pointer (some ⟨g, 0, none⟩), pv] w fun e w' => e = .returned (.int .i64 (atV (l.map tl) (p.take m))) ∧ Below w.heap.size w w' := by
  obtain ⟨b, off, cap, rfl, hc1, hc2, hbz, hcp⟩ : ∃ b off cap, pv = .slice (some ⟨b, off, none⟩) p.length cap ∧ p.length ≤ cap ∧ cap ≤ maxLen ∧ b < w.heap.size ∧ ∀ j, j < p.length → w.cell? ⟨b, off + j, none⟩ = some (.int .u8 ((p.getD j 0 : Nat) : Int)) := by
    rcases hp with ⟨_, rfl⟩ | hp
    · simp at hpm; omega
    · exact hp
  have hc0 : p.getD 0 0 < 256 := getD_byt hpb 0
  have hx0 : (p.take m).getD 0 0 = p.getD 0 0 := by rw [List.getD, List.getElem?_take, if_pos hm, ← List.getD]
  have hff := fst_find (l.map tl) hnd (p.take m)
  rw [hx0] at hff
  obtain ⟨c, hc⟩ : ∃ c, c = p.getD 0 0 := ⟨_, rfl⟩
  rw [← hc] at hff hc0
  have a0 : w.cell? ⟨g, 0, none⟩ = some lv := (cell_of_row w g _ _ _ _ h.row).trans (rfC_0 _ _ _)
  have a1 : w.cell? ⟨g, 1 + c, none⟩ = some (fv c) := (cell_of_row w g _ _ _ _ h.row).trans (rfC_f _ _ _ c hc0)
  have a2 : w.cell? ⟨g, 257, none⟩ = some (.int .i64 (m : Int)) := (cell_of_row w g _ _ _ _ h.row).trans (rfC_w _ _ _)
  have p0 : w.cell? ⟨b, off, none⟩ = some (.int .u8 (c : Int)) := by rw [hc]; exact hcp 0 (by omega)
  obtain ⟨ol, cl, rfl, _, _, hlf⟩ := (own_st h.ol rfl).form
  obtain ⟨of', cf, hfv, _, _, hff2⟩ := (own_si (h.of c hc0) rfl).form
  rw [hfv] at a1
  have HFV : Hid (∀ t, t < (fst (l.map tl) c).length → ∃ b off, of' = some ⟨b, off, none⟩ ∧ b < w.heap.size ∧ w.cell? ⟨b, off + t, none⟩ = some (.int .i64 (((fst (l.map tl) c).getD t 0 : Nat) : Int))) := fun t ht => by
    obtain ⟨b, off, q1, q2, q3⟩ := hff2 (by omega)
    exact ⟨b, off, q1, q2, q3 t ht⟩
  have HLV : Hid (∀ j, j < l.length → ∃ b off, ol = some ⟨b, off, none⟩ ∧ b < w.heap.size ∧ w.cell? ⟨b, off + j, none⟩ = some (.string (txt l j))) := fun j hj => by
    obtain ⟨b, off, q1, q2, q3⟩ := hlf (by omega)
    exact ⟨b, off, q1, q2, q3 j _ (txt_get hj)⟩
  have HCV : Hid (∀ W, Below w.heap.size w W → ∀ n, (convert 23 9 (.slice (some ⟨b, off, none⟩) m cap)).run Try.prog (W.drewN n) = .ok (.string (bst (p.take m))) (W.drewN n)) := fun W hW n => by
    have := conv_sub p b off cap 0 m hc1 hc2 (by omega) (W.drewN n) (by have := hW.size; show b < W.heap.size; omega) (fun j hj => (World.cell?_of_block (w := w) (hW.block b hbz)).trans (hcp j hj))
    simpa using this
  have ct := run_cutH b off p.length cap m (by omega)
  have HFL : Hid ((fst (l.map tl) c).length ≤ 4096) := by have := fst_len (l.map tl) c; rw [List.length_map] at this; exact Nat.le_trans this hln
  have HFM : Hid (∀ t, t < (fst (l.map tl) c).length → (fst (l.map tl) c).getD t 0 < l.length) := fun t ht => by
    have := fst_lt (l.map tl) c _ (getD_mem ht)
    simpa using this
  have HFF : Hid _ := hff
  have HTB : Hid (Byt (p.take m)) := fun x hx => hpb x (List.mem_of_mem_take hx)
  have HRW : Hid (w.heap[g]? = some (.cells (rfC (.slice ol l.length cl) fv m) 108 (0, 0))) := h.row
  have gz := h.gz
  clear hff hff2 hlf hfv hcp h hp hx0 hc
  generalize hFl : fst (l.map tl) c = FL at *
  have hm0 : ¬ ((m : Int) = 0) := by omega
  have hmb : ((m : Int) == 0) = false := by simp; omega
  have hpm' : ¬ ((p.length : Int) < (m : Int)) := by omega
  have hpmd : decide (p.length < m) = false := decide_eq_false (by omega)
  have hp1 : (0 : Int) < (p.length : Int) := by omega
  have hc00 : (0 : Int) ≤ (c : Int) := by omega
  have hc01 : (c : Int) < 256 := by omega
  go_enter Try.func80, Try.ntmps80
  go_wp2_with fail
  go_quiet (fail)
  go_wp2_with fail
  go_loopw [6] (fun iv wr => ∃ t : Nat, iv = .int .i64 (t : Int) ∧ t ≤ FL.length ∧ Hid ((FL.take t).find? (fun j => (l.map tl).getD j [] == p.take m) = none) ∧ Hid (Below w.heap.size w wr)) (fun iv _ => FL.length - (intOf iv).toNat)
  case atStart => exact ⟨0, rfl, by omega, rfl, Below.drewN' (Below.refl _ _) nq⟩
  case round =>
    obtain ⟨t, rfl, ht, HN, HB⟩ := hrel
    by_cases hlt : t < FL.length
    · have ht0 : (0 : Int) ≤ (t : Int) := by omega
      have ht1 : (t : Int) < (FL.length : Int) := by omega
      have hj := HFM.out t hlt
      obtain ⟨bf, offf, rfl, hbf, hcf⟩ := HFV.out t hlt
      have hgd : FL.getD t 0 = FL[t] := by simp [List.getD, hlt]
      have hsnoc := take_snoc hlt
      obtain ⟨j, hj0⟩ : ∃ j, j = FL.getD t 0 := ⟨_, rfl⟩
      rw [← hj0] at hj hcf hgd hsnoc
      obtain ⟨bl, offl, rfl, hbl, hcl⟩ := HLV.out j hj
      have hg : g < w.heap.size := by omega
      have k0 : wr.cell? ⟨g, 0, none⟩ = some (.slice (some ⟨bl, offl, none⟩) l.length cl) := (World.cell?_of_block (w := w) (HB.out.block g hg)).trans a0
      have k2 : wr.cell? ⟨g, 257, none⟩ = some (.int .i64 (m : Int)) := (World.cell?_of_block (w := w) (HB.out.block g hg)).trans a2
      have kf : wr.cell? ⟨bf, offf + t, none⟩ = some (.int .i64 (j : Int)) := (World.cell?_of_block (w := w) (HB.out.block bf hbf)).trans hcf
      have kl : wr.cell? ⟨bl, offl + j, none⟩ = some (.string (txt l j)) := (World.cell?_of_block (w := w) (HB.out.block bl hbl)).trans hcl
      have cv := HCV.out wr HB.out
      have hjz : (0 : Int) ≤ (j : Int) := by omega
      have hjl : (j : Int) < (l.length : Int) := by omega
      have hLj : (l.map tl).getD j [] = tl (txt l j) := by rw [txt_eq hj]; simp [List.getD, hj]
      by_cases hab : bst (p.take m) = txt l j
      · have HE : Hid (atV (l.map tl) (p.take m) = (j : Int)) := by
          show _ = _
          have hq : ((l.map tl).getD j [] == p.take m) = true := by rw [hLj, ← hab, tl_bst _ HTB.out]; simp
          have hfind : FL.find? (fun j => (l.map tl).getD j [] == p.take m) = some j := by
            have e2 : FL = FL.take (t + 1) ++ FL.drop (t + 1) := (List.take_append_drop _ _).symm
            rw [e2, List.find?_append, hsnoc, List.find?_append, HN.out]
            simp only [List.find?_cons, hq, Option.none_or, Option.some_or]
          rw [HFF.out] at hfind
          by_cases hx : p.take m ∈ l.map tl
          · rw [if_pos hx] at hfind
            rw [atV, if_pos hx, Option.some.inj hfind]
          · rw [if_neg hx] at hfind; cases hfind
        rw [← hab] at kl
        clear hLj hsnoc hgd hcf hcl hj0 HN HFM HFV HLV HFF hab hFl
        generalize bst (p.take m) = tx at *
        go_wp2_with fail
        go_quiet (fail)
        go_wp2
        go_ret
        exact ⟨by rw [HE.out]; rfl, Below.drewN' HB.out _⟩
      · have HN2 : Hid ((FL.take (t + 1)).find? (fun j => (l.map tl).getD j [] == p.take m) = none) := by
          show _ = _
          have hq : ((l.map tl).getD j [] == p.take m) = false := by
            rw [hLj, beq_eq_false_iff_ne]
            exact fun h => hab (tl_inj (by rw [tl_bst _ HTB.out, h]))
          rw [hsnoc, List.find?_append, HN.out]
          simp only [List.find?_cons, hq, List.find?_nil, Option.none_or]
        have hab' := str_off hab
        clear hLj hsnoc hgd hcf hcl hj0 HN hab
        generalize bst (p.take m) = tx at *
        generalize txt l j = tj at *
        go_wp2_with fail
        go_quiet (fail)
        go_wp2
        exact ⟨⟨t + 1, by rfl, by omega, HN2, Below.drewN' HB.out _⟩, by simp only [intOf]; omega⟩
    · have ht1 : ¬ ((t : Int) < (FL.length : Int)) := by omega
      have HE : Hid (atV (l.map tl) (p.take m) = -1) := by
        show _ = _
        have := HN.out
        rw [List.take_of_length_le (show FL.length ≤ t by omega), HFF.out] at this
        by_cases hx : p.take m ∈ l.map tl
        · rw [if_pos hx] at this; cases this
        · rw [atV, if_neg hx]
      go_wp2
      go_ret
      exact ⟨by rw [HE.out]; rfl, HB.out⟩
end Go.Proofs.Ytceaklefdahfkab
