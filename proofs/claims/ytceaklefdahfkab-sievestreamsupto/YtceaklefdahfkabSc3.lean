/- The document's Scanner: made, At, Held; the code's At, Held. -/
import Derived.Test.YtceaklefdahfkabSc2
import Derived.Deep.RegionWith
namespace Go.Proofs.Ytceaklefdahfkab
open Go.RowKit
attribute [local go_sem ↓] toSlB toApp
set_option maxRecDepth 100000 in
set_option maxHeartbeats 1600000 in
theorem scanR_own (g : Nat) (lv : Value) (fv : Nat → Value) (l : List ByteArray) (m : Nat) (hm : 0 < m) (hm1 : m ≤ 64) (hln : l.length ≤ 4096) (hnd : (l.map tl).Nodup) (p : List Nat) (hpb : Byt p) (hpl : p.length ≤ 1073741824) (pv : Value) (w : World) (h : Rf g lv fv l (fst (l.map tl)) m w) (hp : Si .u8 pv p w) :
    Calls Try.prog 62 #[.pointer (some ⟨g, 0, none⟩), pv] w fun e w' => ∃ v, e = .returned v ∧ w'.ownsRow w.heap.size 39 2 v (hts (l.map tl) m p).length (hc (hts (l.map tl) m p)) ∧ Below w.heap.size w w' := by
  obtain ⟨o, c, rfl, hc1, hc2, hpf⟩ := hp.form
  have HP : Hid (Si .u8 (.slice o p.length c) p w) := hp
  have HR : Hid _ := h
  have a2 : w.cell? ⟨g, 257, none⟩ = some (.int .i64 (m : Int)) := (cell_of_row w g _ _ _ _ h.row).trans (rfC_w _ _ _)
  have gz : g < w.heap.size := h.gz
  have HND : Hid _ := hnd
  have HPB : Hid _ := hpb
  have HPF : Hid (0 < p.length → ∃ b off, o = some ⟨b, off, none⟩ ∧ b < w.heap.size ∧ ∀ j, j < p.length → w.cell? ⟨b, off + j, none⟩ = some (.int .u8 ((p.getD j 0 : Nat) : Int))) := hpf
  have hm0 : ((m : Int) == 0) = false := beq_eq_false_iff_ne.2 (by omega)
  have hmn : ¬ ((m : Int) = 0) := by omega
  clear hp h hnd hpb hpf
  go_enter Try.func62, Try.ntmps62
  go_wp2_with fail
  go_loopw [5, 6] (fun hv iv wr => ∃ i : Nat, iv = .int .i64 (i : Int) ∧ i ≤ p.length + 1 - m ∧ Hid (wr.ownsRow w.heap.size 39 2 hv (hcn (l.map tl) m p i) (hc ((List.range i).flatMap (htA (l.map tl) m p)))) ∧ Hid (Below w.heap.size w wr)) (fun _ iv _ => p.length + 1 - (intOf iv).toNat)
  case atStart => exact ⟨0, rfl, by omega, World.ownsRow_nil _ _ _ _, Below.refl _ _⟩
  case round =>
    obtain ⟨i, rfl, hi, HO, HB⟩ := hrel
    obtain ⟨ou, cu, rfl⟩ := own_size HO.out
    have k2 : wr.cell? ⟨g, 257, none⟩ = some (.int .i64 (m : Int)) := (World.cell?_of_block (w := w) (HB.out.block g gz)).trans a2
    obtain ⟨s, hs⟩ : ∃ s, s = i + m := ⟨_, rfl⟩
    have es : IntKind.i64.wrap ((i : Int) + (m : Int)) = (s : Int) := by rw [wi _ (by unfold I64; omega)]; omega
    by_cases hsd : s ≤ p.length
    · have hsd' : (s : Int) ≤ (p.length : Int) := by omega
      obtain ⟨b, off, rfl, hb, hcp⟩ := HPF.out (by omega)
      have ct := run_cutL2 b off p.length c i (by omega) hc1
      have hdl : (p.drop i).length = p.length - i := by rw [List.length_drop]
      have hsi : Si .u8 (.slice (some ⟨b, off + i, none⟩) (p.length - i) (c - i)) (p.drop i) wr := .inr ⟨b, off + i, c - i, by rw [hdl], by omega, by unfold maxLen; omega, by have := HB.out.size; omega, fun j hj => by
        rw [hdl] at hj
        rw [Nat.add_assoc, World.cell?_of_block (w := w) (HB.out.block b hb), hcp (i + j) (by omega)]
        have : (p.drop i).getD j 0 = p.getD (i + j) 0 := by rw [List.getD, List.getElem?_drop, ← List.getD]
        rw [this]⟩
      have CA : Hid (Calls Try.prog 80 #[.pointer (some ⟨g, 0, none⟩), .slice (some ⟨b, off + i, none⟩) (p.length - i) (c - i)] wr fun e w' => e = .returned (.int .i64 (atV (l.map tl) ((p.drop i).take m))) ∧ Below wr.heap.size wr w') :=
        at_any g lv fv l m hm hm1 hln HND.out (p.drop i) (fun x hx => HPB.out x (List.mem_of_mem_drop hx)) (by rw [hdl]; omega) (by rw [hdl]; omega) _ wr (HR.out.below HB.out) hsi
      have hle := hcn_le (l.map tl) m p i
      have hsu := hcn_succ (l.map tl) m p i
      have hfm : (List.range (i + 1)).flatMap (htA (l.map tl) m p) = (List.range i).flatMap (htA (l.map tl) m p) ++ htA (l.map tl) m p i := by
        rw [List.range_succ, List.flatMap_append]; simp
      by_cases hin : (p.drop i).take m ∈ l.map tl
      · have hk : atV (l.map tl) ((p.drop i).take m) = (((l.map tl).idxOf ((p.drop i).take m) : Nat) : Int) := by rw [atV, if_pos hin]
        rw [hk] at CA
        rw [if_pos hin] at hsu
        have hha : htA (l.map tl) m p i = [((i : Int), (((l.map tl).idxOf ((p.drop i).take m) : Nat) : Int))] := by rw [htA, if_pos hin]
        rw [hha] at hfm
        generalize (l.map tl).idxOf ((p.drop i).take m) = kk at CA hfm
        have hk0 : (0 : Int) ≤ (kk : Int) := by omega
        have ADD : Hid (∀ W, Below wr.heap.size wr W → ∃ v' W', (appH 31 #[.slice ou (hcn (l.map tl) m p i) cu, .slice (some ⟨W.heap.size, 0, none⟩) 1 1]).run Try.prog (W.alloc (.cells #[.int .i64 (i : Int), .int .i64 (kk : Int)] 39)) = .ok v' W' ∧ Hid (W'.ownsRow w.heap.size 39 2 v' (hcn (l.map tl) m p (i + 1)) (hc ((List.range (i + 1)).flatMap (htA (l.map tl) m p)))) ∧ Hid (Below w.heap.size w W')) := fun W hbW => by
          have hBw : Below w.heap.size w W := HB.out.trans (hbW.mono HB.out.size)
          have hoW : W.ownsRow w.heap.size 39 2 (.slice ou (hcn (l.map tl) m p i) cu) (hcn (l.map tl) m p i) (hc ((List.range i).flatMap (htA (l.map tl) m p))) := own_keep2 HO.out fun k hk => hbW.block k (HO.out.lt k hk).2
          obtain ⟨v', W', r, ho, hg⟩ := run_app1h W w.heap.size _ 31 _ _ (i : Int) (kk : Int) hoW (by omega) hBw.size
          refine ⟨v', W', r, by rw [hsu, hfm]; exact ho, hBw.trans ⟨by rw [hg.os]; rfl, by rw [hg.tape]; rfl, by rw [hg.output]; rfl, by have := hg.size; simp at this; omega, fun j hj => ?_⟩⟩
          have hz := hBw.size
          rw [hg.block j (by simp; omega) (fun e => by have := (hoW.lt j e.symm).1; omega), heap_alloc_old _ _ (h := by omega)]
        clear hk hin hha hfm hsu hsi hcp hdl
        have HS : Hid (s = i + m) := hs
        clear hs
        generalize hcn (l.map tl) m p i = N at *
        go_wp2_with fail
        refine Calls.mono CA.out ?_
        rintro e Wd ⟨rfl, hbd⟩
        obtain ⟨v', W', r, HO2, HB2⟩ := ADD.out Wd hbd
        clear hbd
        go_wp2
        exact ⟨⟨i + 1, by rfl, by have := HS.out; omega, HO2, HB2⟩, by have := HS.out; simp only [intOf]; omega⟩
      · have hk : atV (l.map tl) ((p.drop i).take m) = -1 := by rw [atV, if_neg hin]
        rw [hk] at CA
        rw [if_neg hin, Nat.add_zero] at hsu
        have hha : htA (l.map tl) m p i = [] := by rw [htA, if_neg hin]
        rw [hha, List.append_nil] at hfm
        have HO2 : Hid (∀ W, Below wr.heap.size wr W → W.ownsRow w.heap.size 39 2 (.slice ou (hcn (l.map tl) m p i) cu) (hcn (l.map tl) m p (i + 1)) (hc ((List.range (i + 1)).flatMap (htA (l.map tl) m p)))) := fun W hbW => by
          rw [hsu, hfm]
          exact own_keep2 HO.out fun k hk => hbW.block k (HO.out.lt k hk).2
        clear hk hin hha hfm hsu hsi hcp hdl
        have HS : Hid (s = i + m) := hs
        clear hs
        go_wp2_with fail
        refine Calls.mono CA.out ?_
        rintro e Wd ⟨rfl, hbd⟩
        have HO3 : Hid _ := HO2.out Wd hbd
        have HB3 : Hid (Below w.heap.size w Wd) := HB.out.trans (hbd.mono HB.out.size)
        clear hbd
        go_wp2
        exact ⟨⟨i + 1, by rfl, by have := HS.out; omega, HO3, HB3⟩, by have := HS.out; simp only [intOf]; omega⟩
    · have hsd' : ¬ ((s : Int) ≤ (p.length : Int)) := by omega
      have hie : i = p.length + 1 - m := by omega
      have HE : Hid (wr.ownsRow w.heap.size 39 2 (.slice ou (hcn (l.map tl) m p i) cu) (hts (l.map tl) m p).length (hc (hts (l.map tl) m p))) := by
        have h1 := HO.out
        have h2 := (hl_own h1).2
        have h3 : (hts (l.map tl) m p).length = hcn (l.map tl) m p i := by unfold hts; rw [← hie]; exact h2.symm
        show World.ownsRow _ _ _ _ _ _ _
        rw [h3]
        unfold hts
        rw [← hie]
        exact h1
      clear hie hs HO
      generalize hcn (l.map tl) m p i = N at *
      go_wp2
      go_ret
      exact ⟨_, rfl, HE.out, HB.out⟩

/-- The document's scanner, as it lies. -/
def Rsc (gs g : Nat) (lv : Value) (n : Nat) (w : World) : Prop := w.heap[gs]? = some (.cells #[.pointer (some ⟨g, 0, none⟩), lv, .int .i64 (n : Int)] 105 (0, 0))
theorem scannerR_nil (w : World) : Calls Try.prog 27 #[.pointer none] w fun e w' => e = .returned (.pointer none) ∧ w' = w := by
  go_enter Try.func27, Try.ntmps27
  go_wp2
  go_ret
  exact ⟨rfl, rfl⟩
theorem scannerR_any (g : Nat) (w : World) : Calls Try.prog 27 #[.pointer (some ⟨g, 0, none⟩)] w fun e w' => e = .returned (.pointer (some ⟨w.heap.size, 0, none⟩)) ∧ Rsc w.heap.size g (.slice none 0 0) 0 w' ∧ Below w.heap.size w w' ∧ w'.heap.size = w.heap.size + 1 := by
  obtain ⟨W, hW⟩ : ∃ W, w.alloc (.cells #[.pointer (some ⟨g, 0, none⟩), .slice none 0 0, .int .i64 0] 105) = W := ⟨_, rfl⟩
  have H : Hid (Rsc w.heap.size g (.slice none 0 0) 0 W ∧ Below w.heap.size w W ∧ W.heap.size = w.heap.size + 1) := by
    rw [← hW]
    exact ⟨heap_alloc_new w _, (Below.refl _ w).alloc (Nat.le_refl _) _, by simp⟩
  go_enter Try.func27, Try.ntmps27
  go_wp2
  go_ret
  exact ⟨rfl, H.out⟩
theorem atR_nil (w : World) : Calls Try.prog 32 #[.pointer none] w fun e w' => e = .returned (.int .i64 0) ∧ w' = w := by
  go_enter Try.func32, Try.ntmps32
  go_wp2
  go_ret
  exact ⟨rfl, rfl⟩
theorem atR_any (gs g : Nat) (lv : Value) (n : Nat) (w : World) (h : Rsc gs g lv n w) : Calls Try.prog 32 #[.pointer (some ⟨gs, 0, none⟩)] w fun e w' => e = .returned (.int .i64 (n : Int)) ∧ w' = w := by
  have c : w.cell? ⟨gs, 2, none⟩ = some (.int .i64 (n : Int)) := (cell_of_row w gs _ _ _ _ h).trans rfl
  clear h
  go_enter Try.func32, Try.ntmps32
  go_wp2
  go_ret
  exact ⟨rfl, rfl⟩
theorem atC_any (gs gt s n h : Nat) (w : World) (hs : Scn gs gt s n h w) : Calls Try.prog 31 #[.pointer (some ⟨gs, 0, none⟩)] w fun e w' => e = .returned (.int .i64 (n : Int)) ∧ w' = w := by
  have c : w.cell? ⟨gs, 2, none⟩ = some (.int .i64 (n : Int)) := (cell_of_row w gs _ _ _ _ hs).trans rfl
  clear hs
  go_enter Try.func31, Try.ntmps31
  go_wp2
  go_ret
  exact ⟨rfl, rfl⟩
theorem heldC_any (gs gt s n h : Nat) (w : World) (hs : Scn gs gt s n h w) : Calls Try.prog 33 #[.pointer (some ⟨gs, 0, none⟩)] w fun e w' => e = .returned (.int .i64 (h : Int)) ∧ w' = w := by
  have c : w.cell? ⟨gs, 3, none⟩ = some (.int .i64 (h : Int)) := (cell_of_row w gs _ _ _ _ hs).trans rfl
  clear hs
  go_enter Try.func33, Try.ntmps33
  go_wp2
  go_ret
  exact ⟨rfl, rfl⟩
theorem heldR_nil (w : World) : Calls Try.prog 34 #[.pointer none] w fun e w' => e = .returned (.int .i64 0) ∧ w' = w := by
  go_enter Try.func34, Try.ntmps34
  go_wp2
  go_ret
  exact ⟨rfl, rfl⟩
/-- Held, by what 'held' answers at every world alike. -/
theorem heldR_any (gs g : Nat) (lv : Value) (n k : Nat) (w : World) (h : Rsc gs g lv n w) (C : ∀ W, Below w.heap.size w W → Calls Try.prog 63 #[.pointer (some ⟨g, 0, none⟩), lv] W fun e w' => e = .returned (.int .i64 (k : Int)) ∧ Below W.heap.size W w') :
    Calls Try.prog 34 #[.pointer (some ⟨gs, 0, none⟩)] w fun e w' => e = .returned (.int .i64 (k : Int)) ∧ Below w.heap.size w w' := by
  have c0 : w.cell? ⟨gs, 0, none⟩ = some (.pointer (some ⟨g, 0, none⟩)) := (cell_of_row w gs _ _ _ _ h).trans rfl
  have c1 : w.cell? ⟨gs, 1, none⟩ = some lv := (cell_of_row w gs _ _ _ _ h).trans rfl
  have HC : Hid _ := C
  clear h C
  go_enter Try.func34, Try.ntmps34
  go_wp2_with fail
  go_region_with ((go_at_call 63; refine Calls.mono (HC.out _ (by first | exact Below.refl _ _ | exact Below.drewN' (Below.refl _ _) _ | exact Below.drewN' (Below.refl _ _) 1)) ?_; rintro e w' ⟨rfl, hb'⟩; have HB' : Hid (Below w.heap.size w w') := (Below.trans (by first | exact Below.refl _ _ | exact Below.drewN' (Below.refl _ _) _ | exact Below.drewN' (Below.refl _ _) 1) (hb'.mono (Nat.le_refl _))); clear hb'))
  all_goals
    go_wp2
    go_ret
    exact ⟨rfl, HB'.out⟩
end Go.Proofs.Ytceaklefdahfkab
