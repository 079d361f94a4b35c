/- SieveFinds: stands and count. -/
import Derived.Test.YtceaklefdahfkabFn3
import Derived.Test.YtceaklefdahfkabAm6
import Derived.BigQuiet
namespace Go.Proofs.Ytceaklefdahfkab
open Go.RowKit
theorem run_cut64 (b off n c l h : Nat) (h1 : l < h) (h2 : h ≤ c) (w : World) : (slB (.slice (some ⟨b, off, none⟩) n c) (some (.int .i64 (l : Int))) (some (.int .i64 (h : Int))) none).run Try.prog w = .ok (.slice (some ⟨b, off + l, none⟩) (h - l) (c - l)) w := by
  have := run_slice_lh (P := Try.prog) w 23 (some ⟨b, off, none⟩) n c u27 .i64 .i64 (l : Int) (h : Int) (by omega) (by omega) (by omega)
  unfold slB
  rw [this, elem27, run_size1 w size5]
  simp only [Result.andThen, sliced, Int.toNat_natCast]
  rw [if_neg (by omega), Option.map_some, Nat.mul_one, Go.WideShapes.add_plain]
/-- A piece of bytes, as a text. -/
theorem conv_sub (d : List Nat) (b off c i m : Nat) (hc : d.length ≤ c) (hcm : c ≤ maxLen) (hm : i + m ≤ d.length) (w : World) (hb : b < w.heap.size) (hd : ∀ j, j < d.length → w.cell? ⟨b, off + j, none⟩ = some (.int .u8 ((d.getD j 0 : Nat) : Int))) :
    (convert 23 9 (.slice (some ⟨b, off + i, none⟩) m (c - i))).run Try.prog w = .ok (.string (bst ((d.drop i).take m))) w := by
  have hl : ((d.drop i).take m).length = m := by rw [List.length_take, List.length_drop]; omega
  have hs : Si .u8 (.slice (some ⟨b, off + i, none⟩) m (c - i)) ((d.drop i).take m) w := .inr ⟨b, off + i, c - i, by rw [hl], by omega, by omega, hb, fun j hj => by
    rw [hl] at hj
    rw [Nat.add_assoc, hd (i + j) (by omega)]
    have : ((d.drop i).take m).getD j 0 = d.getD (i + j) 0 := by rw [List.getD, List.getElem?_take, if_pos hj, List.getElem?_drop, ← List.getD]
    rw [this]⟩
  exact conv_si hs
attribute [local go_sem ↓] toSlB
set_option maxRecDepth 100000 in
set_option maxHeartbeats 1600000 in
theorem stands_any (d : List Nat) (hdl : d.length ≤ 1073741824) (ws : List ByteArray) (hwl : ws.length ≤ 1073741824) (m i k : Nat) (hm : 0 < m) (hi : i + m ≤ d.length) (hk : k < ws.length) (h0 : (txt ws 0).size = m) (he : txt ws k = bst ((d.drop i).take m)) (v u : Value) (w : World) (hv : Si .u8 v d w) (hu : St u ws w) :
    Calls Try.prog 17 #[v, .agg #[.int .i64 (i : Int), .int .i64 (k : Int)], u] w fun e w' => e = .returned (.bool true) ∧ Below w.heap.size w w' := by
  obtain ⟨W, hW⟩ : ∃ W, w.alloc (.cells #[.int .i64 (i : Int), .int .i64 (k : Int)] 39) = W := ⟨_, rfl⟩
  have B0 : Below w.heap.size w W := by rw [← hW]; exact (Below.refl _ w).alloc (Nat.le_refl _) _
  have R0 : W.heap[w.heap.size]? = some (.cells #[.int .i64 (i : Int), .int .i64 (k : Int)] 39 (0, 0)) := by rw [← hW]; exact heap_alloc_new _ _
  have a0 : W.cell? ⟨w.heap.size, 0, none⟩ = some (.int .i64 (i : Int)) := (cell_of_row W _ _ _ _ _ R0).trans rfl
  have a1 : W.cell? ⟨w.heap.size, 1, none⟩ = some (.int .i64 (k : Int)) := (cell_of_row W _ _ _ _ _ R0).trans rfl
  obtain ⟨od, cd, rfl, hd1, hd2, hdf⟩ := (hv.below B0).form
  obtain ⟨bd, offd, rfl, hbd, hcd⟩ := hdf (by omega)
  obtain ⟨ou, cu, rfl, hu1, hu2, huf⟩ := (hu.below B0).form
  obtain ⟨bu, offu, rfl, hbu, hcu⟩ := huf (by omega)
  have u0 : W.cell? ⟨bu, offu, none⟩ = some (.string (txt ws 0)) := hcu 0 _ (txt_get (by omega))
  have uk : W.cell? ⟨bu, offu + k, none⟩ = some (.string (bst ((d.drop i).take m))) := by rw [← he]; exact hcu k _ (txt_get hk)
  have cvt : ∀ n, (convert 23 9 (.slice (some ⟨bd, offd + i, none⟩) m (cd - i))).run Try.prog (W.drewN n) = .ok (.string (bst ((d.drop i).take m))) (W.drewN n) := fun n => conv_sub d bd offd cd i m hd1 (by unfold maxLen; omega) hi (W.drewN n) hbd hcd
  have ct := run_cut64 bd offd d.length cd i (i + m) (by omega) (by omega)
  rw [show i + m - i = m by omega] at ct
  obtain ⟨s, hs⟩ : ∃ s, s = i + m := ⟨_, rfl⟩
  rw [← hs] at ct hi
  have es : IntKind.i64.wrap ((i : Int) + (m : Int)) = (s : Int) := by rw [wi _ (by unfold I64; omega)]; omega
  have HB : Hid (Below w.heap.size w W) := B0
  have hi0 : (0 : Int) ≤ (i : Int) := by omega
  have hk0 : (0 : Int) ≤ (k : Int) := by omega
  have hk1 : (k : Int) < (ws.length : Int) := by omega
  have hs1 : (s : Int) ≤ (d.length : Int) := by omega
  have g1 : decide (k < ws.length) = true := decide_eq_true hk
  have g2 : decide (s ≤ d.length) = true := decide_eq_true hi
  have hw1 : (0 : Int) < (ws.length : Int) := by omega
  generalize txt ws 0 = s0 at *
  generalize bst ((d.drop i).take m) = tx at *
  clear hv hu hdf huf hcd hcu R0 B0 he hs hd1 hd2 hu1 hu2
  subst h0
  go_enter Try.func17, Try.ntmps17
  go_wp2_with fail
  go_quiet (fail)
  go_wp2
  go_ret
  exact ⟨rfl, Below.drewN' HB.out nq⟩
/-- How many hits there are ahead of a place. -/
def hcn (L : List (List Nat)) (m : Nat) (d : List Nat) (i : Nat) : Nat := ((List.range i).flatMap (htA L m d)).length
theorem hcn_succ (L : List (List Nat)) (m : Nat) (d : List Nat) (i : Nat) : hcn L m d (i + 1) = hcn L m d i + if (d.drop i).take m ∈ L then 1 else 0 := by
  unfold hcn
  rw [List.range_succ, List.flatMap_append, List.length_append]
  congr 1
  simp only [List.flatMap_cons, List.flatMap_nil, List.append_nil]
  unfold htA
  split <;> rfl
theorem hcn_le (L : List (List Nat)) (m : Nat) (d : List Nat) : ∀ i, hcn L m d i ≤ i
  | 0 => by simp [hcn]
  | i + 1 => by
    have := hcn_le L m d i
    rw [hcn_succ]
    split <;> omega
/-- .. or of the first words at a place. -/
def kcn (L : List (List Nat)) (x : List Nat) (k : Nat) : Nat := if x ∈ L.take k then 1 else 0
theorem kcn_succ (L : List (List Nat)) (hn : L.Nodup) (x : List Nat) (k : Nat) (hk : k < L.length) : kcn L x (k + 1) = kcn L x k + if L[k] = x then 1 else 0 := by
  unfold kcn
  rw [List.take_succ_eq_append_getElem hk]
  by_cases h : L[k] = x
  · rw [if_pos h, if_pos (by simp [h])]
    rw [if_neg]
    intro h2
    obtain ⟨j, hj, hj2⟩ := List.mem_iff_getElem.1 h2
    have hj3 : j < k := by rw [List.length_take] at hj; omega
    rw [List.getElem_take] at hj2
    have := (List.getElem_inj (h₀ := by omega) (h₁ := hk) hn).1 (hj2.trans h.symm)
    omega
  · rw [if_neg h, Nat.add_zero]
    congr 1
    simp only [List.mem_append, List.mem_singleton, eq_iff_iff]
    constructor
    · rintro (h1 | h1)
      · exact h1
      · exact absurd h1.symm h
    · exact .inl
set_option maxRecDepth 100000 in
set_option maxHeartbeats 1600000 in
theorem count_any (d : List Nat) (hdl : d.length ≤ 1073741824) (hdb : Byt d) (ws : List ByteArray) (hw0 : 0 < ws.length) (hwl : ws.length ≤ 1073741824) (m : Nat) (hm : 0 < m) (hm1 : m ≤ 1073741824) (hsz : ∀ s ∈ ws, s.size = m) (hnd : (ws.map tl).Nodup) (v u : Value) (w : World) (hv : Si .u8 v d w) (hu : St u ws w) :
    Calls Try.prog 18 #[v, u] w fun e w' => e = .returned (.int .i64 ((hts (ws.map tl) m d).length : Int)) ∧ Below w.heap.size w w' := by
  obtain ⟨od, cd, rfl, hd1, hd2, hdf⟩ := hv.form
  obtain ⟨ou, cu, rfl, hu1, hu2, huf⟩ := hu.form
  obtain ⟨bu, offu, rfl, hbu, hcu⟩ := huf hw0
  have hs0 : (txt ws 0).size = m := hsz _ (List.mem_of_getElem? (txt_get hw0))
  have HU : Hid (∀ j, j < ws.length → w.cell? ⟨bu, offu + j, none⟩ = some (.string (txt ws j))) := fun j hj => hcu j _ (txt_get hj)
  have HD : Hid (0 < d.length → ∃ b off, od = some ⟨b, off, none⟩ ∧ b < w.heap.size ∧ ∀ j, j < d.length → w.cell? ⟨b, off + j, none⟩ = some (.int .u8 ((d.getD j 0 : Nat) : Int))) := hdf
  have HLE : Hid (∀ i, hcn (ws.map tl) m d i ≤ i) := hcn_le _ _ _
  have HND : Hid _ := hnd
  have HSZ : Hid _ := hsz
  have HF : Hid ((hts (ws.map tl) m d).length = hcn (ws.map tl) m d (d.length + 1 - m)) := rfl
  have hw1 : (0 : Int) < (ws.length : Int) := by omega
  clear hv hu hdf huf hcu hnd hsz
  rw [HF.out]
  go_enter Try.func18, Try.ntmps18
  go_wp2_with fail
  go_loopw [5, 6] (fun nv iv wr => ∃ i : Nat, iv = .int .i64 (i : Int) ∧ i ≤ d.length + 1 - m ∧ nv = .int .i64 ((hcn (ws.map tl) m d i : Nat) : Int) ∧ Hid (Below w.heap.size w wr)) (fun _ iv _ => d.length + 1 - (intOf iv).toNat)
  case atStart => exact ⟨0, rfl, by omega, rfl, Below.refl _ _⟩
  case round =>
    obtain ⟨i, rfl, hi, rfl, HB⟩ := hrel
    have c0 : wr.cell? ⟨bu, offu, none⟩ = some (.string (txt ws 0)) := (World.cell?_of_block (w := w) (HB.out.block bu hbu)).trans (HU.out 0 hw0)
    obtain ⟨s, hs⟩ : ∃ s, s = i + m := ⟨_, rfl⟩
    have es : IntKind.i64.wrap ((i : Int) + (m : Int)) = (s : Int) := by rw [wi _ (by unfold I64; omega)]; omega
    have HSI : Hid (s = i + m) := hs
    obtain ⟨N0, hN0⟩ : ∃ N0, N0 = hcn (ws.map tl) m d i := ⟨_, rfl⟩
    have hN1 : N0 ≤ i := by rw [hN0]; exact HLE.out i
    rw [← hN0]
    have HN0 : Hid _ := hN0
    clear hN0
    by_cases hsd : s ≤ d.length
    · have hsd' : (s : Int) ≤ (d.length : Int) := by omega
      obtain ⟨bd, offd, rfl, hbd, hcd⟩ := HD.out (by omega)
      clear hs
      go_wp2_with fail
      go_loopw [5, 7] (fun nv kv wr => ∃ k : Nat, kv = .int .i64 (k : Int) ∧ k ≤ ws.length ∧ nv = .int .i64 ((N0 + kcn (ws.map tl) ((d.drop i).take m) k : Nat) : Int) ∧ Hid (Below w.heap.size w wr)) (fun _ kv _ => ws.length - (intOf kv).toNat)
      case atStart => exact ⟨0, rfl, by omega, by simp [kcn], HB⟩
      case round =>
        clear c0 HB
        obtain ⟨k, rfl, hk, rfl, HB⟩ := hrel
        obtain ⟨N1, hN1e⟩ : ∃ N1, N1 = N0 + kcn (ws.map tl) ((d.drop i).take m) k := ⟨_, rfl⟩
        have hN1l : N1 ≤ i + 1 := by rw [hN1e]; unfold kcn; split <;> omega
        rw [← hN1e]
        have HN1 : Hid _ := hN1e
        clear hN1e
        by_cases hkl : k < ws.length
        · have hk0 : (0 : Int) ≤ (k : Int) := by omega
          have hk1 : (k : Int) < (ws.length : Int) := by omega
          have c0 : wr.cell? ⟨bu, offu, none⟩ = some (.string (txt ws 0)) := (World.cell?_of_block (w := w) (HB.out.block bu hbu)).trans (HU.out 0 hw0)
          have ck : wr.cell? ⟨bu, offu + k, none⟩ = some (.string (txt ws k)) := (World.cell?_of_block (w := w) (HB.out.block bu hbu)).trans (HU.out k hkl)
          have cvt : ∀ n, (convert 23 9 (.slice (some ⟨bd, offd + i, none⟩) m (cd - i))).run Try.prog (wr.drewN n) = .ok (.string (bst ((d.drop i).take m))) (wr.drewN n) := fun n => conv_sub d bd offd cd i m hd1 (by unfold maxLen; omega) (by have := HSI.out; omega) (wr.drewN n) (by have := HB.out.size; show bd < wr.heap.size; omega) (fun j hj => (World.cell?_of_block (w := w) (HB.out.block bd hbd)).trans (hcd j hj))
          have ct := run_cut64 bd offd d.length cd i s (by have := HSI.out; omega) (by omega)
          rw [show s - i = m by have := HSI.out; omega] at ct
          have hkk := kcn_succ (ws.map tl) HND.out ((d.drop i).take m) k (by simpa using hkl)
          have hLk : (ws.map tl)[k]'(by simpa using hkl) = tl (txt ws k) := by rw [List.getElem_map, txt_eq hkl]
          rw [hLk] at hkk
          have hi0 : (0 : Int) ≤ (i : Int) := by omega
          have hdt : Byt ((d.drop i).take m) := fun x hx => hdb x (List.mem_of_mem_drop (List.mem_of_mem_take hx))
          by_cases hab : bst ((d.drop i).take m) = txt ws k
          · have e1 : tl (txt ws k) = (d.drop i).take m := by rw [← hab, tl_bst _ hdt]
            rw [if_pos e1] at hkk
            have HNN : Hid (N1 + 1 = N0 + kcn (ws.map tl) ((d.drop i).take m) (k + 1)) := by show _ = _; rw [hkk, HN1.out]; omega
            rw [← hab] at ck
            clear hkk hLk e1 hdt hab
            generalize bst ((d.drop i).take m) = tx at *
            generalize txt ws 0 = s0 at *
            subst hs0
            go_wp2_with fail
            go_quiet (fail)
            go_wp2
            exact ⟨⟨k + 1, by rfl, by omega, by rw [← HNN.out]; rfl, Below.drewN' HB.out nq⟩, by simp only [intOf]; omega⟩
          · have e1 : ¬ tl (txt ws k) = (d.drop i).take m := fun h => hab (tl_inj (by rw [tl_bst _ hdt, h]))
            rw [if_neg e1] at hkk
            have HNN : Hid (N1 = N0 + kcn (ws.map tl) ((d.drop i).take m) (k + 1)) := by show _ = _; rw [hkk, HN1.out]; omega
            have hab' := str_off hab
            clear hkk hLk e1 hdt hab
            generalize bst ((d.drop i).take m) = tx at *
            generalize txt ws 0 = s0 at *
            generalize txt ws k = sk' at *
            subst hs0
            go_wp2_with fail
            go_quiet (fail)
            go_wp2
            exact ⟨⟨k + 1, by rfl, by omega, by rw [← HNN.out], Below.drewN' HB.out nq⟩, by simp only [intOf]; omega⟩
        · have hk1 : ¬ ((k : Int) < (ws.length : Int)) := by omega
          have HNN : Hid (N1 = hcn (ws.map tl) m d (i + 1)) := by
            show _ = _
            have hke : k = ws.length := by omega
            rw [hcn_succ, HN1.out, HN0.out, kcn, hke]
            rw [List.take_of_length_le (by simp)]
          clear HN1 HN0
          go_wp2
          exact ⟨⟨i + 1, by rfl, by have := HSI.out; omega, by rw [← HNN.out], HB⟩, by have := HSI.out; simp only [intOf]; omega⟩
    · have hsd' : ¬ ((s : Int) ≤ (d.length : Int)) := by omega
      have HE : Hid (N0 = hcn (ws.map tl) m d (d.length + 1 - m)) := by
        show _ = _
        rw [HN0.out, show i = d.length + 1 - m by omega]
      clear HN0 hs
      generalize txt ws 0 = s0 at *
      subst hs0
      go_wp2
      go_ret
      exact ⟨by rw [← HE.out]; rfl, HB.out⟩
end Go.Proofs.Ytceaklefdahfkab
