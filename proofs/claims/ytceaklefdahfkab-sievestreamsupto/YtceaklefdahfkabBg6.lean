/- SieveBegins: the document's Scan, Len and Width. -/
import Derived.Test.YtceaklefdahfkabBg5
namespace Go.Proofs.Ytceaklefdahfkab
open Go.RowKit
theorem scanR_nil (v : Value) (w : World) : Calls Try.prog 62 #[.pointer none, v] w fun e w' => e = .returned (.slice none 0 0) ∧ w' = w := by
  go_enter Try.func62, Try.ntmps62
  go_wp2
  go_ret
  exact ⟨rfl, rfl⟩
theorem scanR_0 (g : Nat) (lv : Value) (fv : Nat → Value) (l : List ByteArray) (F : Nat → List Nat) (v : Value) (w : World) (h : Rf g lv fv l F 0 w) : Calls Try.prog 62 #[.pointer (some ⟨g, 0, none⟩), v] w fun e w' => e = .returned (.slice none 0 0) ∧ w' = w := by
  have a0 : w.cell? ⟨g, 257, none⟩ = some (.int .i64 0) := (cell_of_row w g _ _ _ _ h.row).trans (rfC_w _ _ _)
  clear h
  go_enter Try.func62, Try.ntmps62
  go_wp2
  go_ret
  exact ⟨rfl, rfl⟩
theorem run_cutL2 (b off n c p : Nat) (h : p < n) (hc : n ≤ c) (w : World) : (slB (.slice (some ⟨b, off, none⟩) n c) (some (.int .i64 (p : Int))) none none).run Try.prog w = .ok (.slice (some ⟨b, off + p, none⟩) (n - p) (c - p)) w := by
  have := run_slice_l (P := Try.prog) w 23 (some ⟨b, off, none⟩) n c u27 .i64 (p : Int) (by omega) (by omega)
  unfold slB
  rw [this, elem27, run_size1 w size5]
  simp only [Result.andThen, sliced, Int.toNat_natCast, Option.map_some, Nat.mul_one]
  rw [if_neg (by omega), Go.WideShapes.add_plain]
attribute [local go_sem ↓] toSlB toApp
set_option maxRecDepth 100000 in
set_option maxHeartbeats 1600000 in
theorem scanR_any (g : Nat) (lv : Value) (fv : Nat → Value) (l : List ByteArray) (m : Nat) (hm : 0 < m) (hm1 : m ≤ 64) (hln : l.length ≤ 4096) (hnd : (l.map tl).Nodup) (p : List Nat) (hpb : Byt p) (hpl : p.length ≤ 1048576) (pv : Value) (w : World) (h : Rf g lv fv l (fst (l.map tl)) m w) (hp : Si .u8 pv p w) :
    Calls Try.prog 62 #[.pointer (some ⟨g, 0, none⟩), pv] w fun e w' => ∃ v, e = .returned v ∧ Hl v (hts (l.map tl) m p) w' ∧ Below w.heap.size w w' := by
  obtain ⟨o, c, rfl, hc1, hc2, hpf⟩ := hp.form
  have HP : Hid (Si .u8 (.slice o p.length c) p w) := hp
  have HR : Hid _ := h
  have a2 : w.cell? ⟨g, 257, none⟩ = some (.int .i64 (m : Int)) := (cell_of_row w g _ _ _ _ h.row).trans (rfC_w _ _ _)
  have gz : g < w.heap.size := h.gz
  have HND : Hid _ := hnd
  have HPB : Hid _ := hpb
  have HPF : Hid (0 < p.length → ∃ b off, o = some ⟨b, off, none⟩ ∧ b < w.heap.size ∧ ∀ j, j < p.length → w.cell? ⟨b, off + j, none⟩ = some (.int .u8 ((p.getD j 0 : Nat) : Int))) := hpf
  have hm0 : ((m : Int) == 0) = false := beq_eq_false_iff_ne.2 (by omega)
  have hmn : ¬ ((m : Int) = 0) := by omega
  clear hp h hnd hpb hpf
  go_enter Try.func62, Try.ntmps62
  go_wp2_with fail
  go_loopw [5, 6] (fun hv iv wr => ∃ i : Nat, iv = .int .i64 (i : Int) ∧ i ≤ p.length + 1 - m ∧ Hid (wr.ownsRow w.heap.size 39 2 hv (hcn (l.map tl) m p i) (hc ((List.range i).flatMap (htA (l.map tl) m p)))) ∧ Hid (Below w.heap.size w wr)) (fun _ iv _ => p.length + 1 - (intOf iv).toNat)
  case atStart => exact ⟨0, rfl, by omega, World.ownsRow_nil _ _ _ _, Below.refl _ _⟩
  case round =>
    obtain ⟨i, rfl, hi, HO, HB⟩ := hrel
    obtain ⟨ou, cu, rfl⟩ := own_size HO.out
    have k2 : wr.cell? ⟨g, 257, none⟩ = some (.int .i64 (m : Int)) := (World.cell?_of_block (w := w) (HB.out.block g gz)).trans a2
    obtain ⟨s, hs⟩ : ∃ s, s = i + m := ⟨_, rfl⟩
    have es : IntKind.i64.wrap ((i : Int) + (m : Int)) = (s : Int) := by rw [wi _ (by unfold I64; omega)]; omega
    by_cases hsd : s ≤ p.length
    · have hsd' : (s : Int) ≤ (p.length : Int) := by omega
      obtain ⟨b, off, rfl, hb, hcp⟩ := HPF.out (by omega)
      have ct := run_cutL2 b off p.length c i (by omega) hc1
      have hdl : (p.drop i).length = p.length - i := by rw [List.length_drop]
      have hsi : Si .u8 (.slice (some ⟨b, off + i, none⟩) (p.length - i) (c - i)) (p.drop i) wr := .inr ⟨b, off + i, c - i, by rw [hdl], by omega, by unfold maxLen; omega, by have := HB.out.size; omega, fun j hj => by
        rw [hdl] at hj
        rw [Nat.add_assoc, World.cell?_of_block (w := w) (HB.out.block b hb), hcp (i + j) (by omega)]
        have : (p.drop i).getD j 0 = p.getD (i + j) 0 := by rw [List.getD, List.getElem?_drop, ← List.getD]
        rw [this]⟩
      have CA : Hid (Calls Try.prog 80 #[.pointer (some ⟨g, 0, none⟩), .slice (some ⟨b, off + i, none⟩) (p.length - i) (c - i)] wr fun e w' => e = .returned (.int .i64 (atV (l.map tl) ((p.drop i).take m))) ∧ Below wr.heap.size wr w') :=
        at_any g lv fv l m hm hm1 hln HND.out (p.drop i) (fun x hx => HPB.out x (List.mem_of_mem_drop hx)) (by rw [hdl]; omega) (by rw [hdl]; omega) _ wr (HR.out.below HB.out) hsi
      have hle := hcn_le (l.map tl) m p i
      have hsu := hcn_succ (l.map tl) m p i
      have hfm : (List.range (i + 1)).flatMap (htA (l.map tl) m p) = (List.range i).flatMap (htA (l.map tl) m p) ++ htA (l.map tl) m p i := by
        rw [List.range_succ, List.flatMap_append]; simp
      by_cases hin : (p.drop i).take m ∈ l.map tl
      · have hk : atV (l.map tl) ((p.drop i).take m) = (((l.map tl).idxOf ((p.drop i).take m) : Nat) : Int) := by rw [atV, if_pos hin]
        rw [hk] at CA
        rw [if_pos hin] at hsu
        have hha : htA (l.map tl) m p i = [((i : Int), (((l.map tl).idxOf ((p.drop i).take m) : Nat) : Int))] := by rw [htA, if_pos hin]
        rw [hha] at hfm
        generalize (l.map tl).idxOf ((p.drop i).take m) = kk at CA hfm
        have hk0 : (0 : Int) ≤ (kk : Int) := by omega
        have ADD : Hid (∀ W, Below wr.heap.size wr W → ∃ v' W', (appH 31 #[.slice ou (hcn (l.map tl) m p i) cu, .slice (some ⟨W.heap.size, 0, none⟩) 1 1]).run Try.prog (W.alloc (.cells #[.int .i64 (i : Int), .int .i64 (kk : Int)] 39)) = .ok v' W' ∧ Hid (W'.ownsRow w.heap.size 39 2 v' (hcn (l.map tl) m p (i + 1)) (hc ((List.range (i + 1)).flatMap (htA (l.map tl) m p)))) ∧ Hid (Below w.heap.size w W')) := fun W hbW => by
          have hBw : Below w.heap.size w W := HB.out.trans (hbW.mono HB.out.size)
          have hoW : W.ownsRow w.heap.size 39 2 (.slice ou (hcn (l.map tl) m p i) cu) (hcn (l.map tl) m p i) (hc ((List.range i).flatMap (htA (l.map tl) m p))) := own_keep2 HO.out fun k hk => hbW.block k (HO.out.lt k hk).2
          obtain ⟨v', W', r, ho, hg⟩ := run_app1h W w.heap.size _ 31 _ _ (i : Int) (kk : Int) hoW (by omega) hBw.size
          refine ⟨v', W', r, by rw [hsu, hfm]; exact ho, hBw.trans ⟨by rw [hg.os]; rfl, by rw [hg.tape]; rfl, by rw [hg.output]; rfl, by have := hg.size; simp at this; omega, fun j hj => ?_⟩⟩
          have hz := hBw.size
          rw [hg.block j (by simp; omega) (fun e => by have := (hoW.lt j e.symm).1; omega), heap_alloc_old _ _ (h := by omega)]
        clear hk hin hha hfm hsu hsi hcp hdl
        have HS : Hid (s = i + m) := hs
        clear hs
        generalize hcn (l.map tl) m p i = N at *
        go_wp2_with fail
        refine Calls.mono CA.out ?_
        rintro e Wd ⟨rfl, hbd⟩
        obtain ⟨v', W', r, HO2, HB2⟩ := ADD.out Wd hbd
        clear hbd
        go_wp2
        exact ⟨⟨i + 1, by rfl, by have := HS.out; omega, HO2, HB2⟩, by have := HS.out; simp only [intOf]; omega⟩
      · have hk : atV (l.map tl) ((p.drop i).take m) = -1 := by rw [atV, if_neg hin]
        rw [hk] at CA
        rw [if_neg hin, Nat.add_zero] at hsu
        have hha : htA (l.map tl) m p i = [] := by rw [htA, if_neg hin]
        rw [hha, List.append_nil] at hfm
        have HO2 : Hid (∀ W, Below wr.heap.size wr W → W.ownsRow w.heap.size 39 2 (.slice ou (hcn (l.map tl) m p i) cu) (hcn (l.map tl) m p (i + 1)) (hc ((List.range (i + 1)).flatMap (htA (l.map tl) m p)))) := fun W hbW => by
          rw [hsu, hfm]
          exact own_keep2 HO.out fun k hk => hbW.block k (HO.out.lt k hk).2
        clear hk hin hha hfm hsu hsi hcp hdl
        have HS : Hid (s = i + m) := hs
        clear hs
        go_wp2_with fail
        refine Calls.mono CA.out ?_
        rintro e Wd ⟨rfl, hbd⟩
        have HO3 : Hid _ := HO2.out Wd hbd
        have HB3 : Hid (Below w.heap.size w Wd) := HB.out.trans (hbd.mono HB.out.size)
        clear hbd
        go_wp2
        exact ⟨⟨i + 1, by rfl, by have := HS.out; omega, HO3, HB3⟩, by have := HS.out; simp only [intOf]; omega⟩
    · have hsd' : ¬ ((s : Int) ≤ (p.length : Int)) := by omega
      have hie : i = p.length + 1 - m := by omega
      have HE : Hid (Hl (.slice ou (hcn (l.map tl) m p i) cu) (hts (l.map tl) m p) wr) := by
        have := (hl_own HO.out).1
        unfold hts
        rw [← hie]
        exact this
      clear hie hs HO
      generalize hcn (l.map tl) m p i = N at *
      go_wp2
      go_ret
      exact ⟨_, rfl, HE.out, HB.out⟩
end Go.Proofs.Ytceaklefdahfkab
