/- The sieve: byText. -/
import Derived.Test.YtceaklefdahfkabSv19
namespace Go.Proofs.Ytceaklefdahfkab
open Go.RowKit
/-- The sort, whatever the length. -/
theorem sort_any (l : List ByteArray) (hl : l.length ≤ 4096) (v : Value) (gb gn : Nat) (w0 w : World) (hv : St v l w0) (hgb : gb < gn) (hvb : w0.heap.size ≤ gn) (hbl : Below w0.heap.size w0 w) (hbox : w.cell? ⟨gb, 0, none⟩ = some v) (hn : w.heap[gn]? = some (.cells (ik .i64 (List.range l.length)) 3 (0, 0))) :
    Calls Try.prog 71 #[.slice (some ⟨gn, 0, none⟩) l.length l.length, .func (.func 72) #[] #[.pointer (some ⟨gb, 0, none⟩)]] w fun e w' => e = .returned (.tuple #[]) ∧ ∃ ns, Srt l ns ∧ Si .i64 (.slice (some ⟨gn, 0, none⟩) l.length l.length) ns w' ∧ Below gn w w' := by
  cases hk : l.length with
  | zero =>
    have hl0 : l = [] := List.length_eq_zero_iff.1 hk
    subst hl0
    refine (sort0 _ _ _ w).mono ?_
    rintro e w' ⟨he, rfl⟩
    exact ⟨he, [], ⟨List.Perm.refl _, fun i j _ h => by simp at h⟩, .inr ⟨gn, 0, 0, rfl, Nat.le_refl _, by omega, (Array.getElem?_eq_some_iff.1 hn).1, fun j hj => by simp at hj⟩, Below.refl _ _⟩
  | succ k =>
    have hv2 := hv.below hbl
    obtain ⟨o, c, rfl, _, _, hf⟩ := hv2.form
    obtain ⟨b, off, rfl, _, hc⟩ := hf (by omega)
    have hb0 := hv.lt b rfl
    have := sortC l k hk hl gb gn b off c w hgb (by omega) hbox hc hn
    rw [hk] at this
    exact this
attribute [local go_sem ↓] toMkI
set_option maxRecDepth 100000 in
set_option maxHeartbeats 1600000 in
theorem byText_any (l : List ByteArray) (hl : l.length ≤ 4096) (v : Value) (w : World) (hv : St v l w) : Calls Try.prog 46 #[v] w (ByT l w) := by
  obtain ⟨W1, hW1⟩ : ∃ W1, w.alloc (.cells #[v] 22) = W1 := ⟨_, rfl⟩
  have B1 : Below w.heap.size w W1 := by rw [← hW1]; exact (Below.refl _ w).alloc (Nat.le_refl _) _
  have R1 : W1.heap[w.heap.size]? = some (.cells #[v] 22 (0, 0)) := by rw [← hW1]; exact heap_alloc_new _ _
  have z1 : W1.heap.size = w.heap.size + 1 := by rw [← hW1]; simp
  have cb : W1.cell? ⟨w.heap.size, 0, none⟩ = some v := (cell_of_row W1 _ _ _ _ _ R1).trans rfl
  obtain ⟨W0, r0, R0, B0⟩ := run_mkI W1 l.length (by omega)
  rw [z1] at r0 R0 B0
  have HR0 : Hid (W0.heap[w.heap.size + 1]? = some (.cells (ik .i64 (List.replicate l.length 0)) 3 (0, 0))) := R0
  have HB0 : Hid (Below (w.heap.size + 1) W1 W0) := B0
  have HS : Hid (∀ wr, wr.heap[w.heap.size + 1]? = some (.cells (ik .i64 (List.range l.length)) 3 (0, 0)) → Below (w.heap.size + 1) W1 wr → Calls Try.prog 71 #[.slice (some ⟨w.heap.size + 1, 0, none⟩) l.length l.length, .func (.func 72) #[] #[.pointer (some ⟨w.heap.size, 0, none⟩)]] wr fun e w' => e = .returned (.tuple #[]) ∧ ∃ ns, Srt l ns ∧ Si .i64 (.slice (some ⟨w.heap.size + 1, 0, none⟩) l.length l.length) ns w' ∧ Below w.heap.size w w') := fun wr hr hb => by
    have hbw : Below w.heap.size w wr := B1.trans (hb.mono (by omega))
    refine (sort_any l hl v w.heap.size (w.heap.size + 1) w wr hv (by omega) (by omega) hbw ?_ hr).mono ?_
    · exact (World.cell?_of_block (w := W1) (hb.block _ (by simp))).trans cb
    · rintro e w' ⟨he, ns, h1, h2, h3⟩
      exact ⟨he, ns, h1, h2, hbw.trans (h3.mono (by omega))⟩
  obtain ⟨o, c, hvo, _, _, _⟩ := hv.form
  clear hv R0 B0 R1 B1 z1
  subst hvo
  unfold ByT
  generalize hgb : w.heap.size = gb at *
  go_enter Try.func46, Try.ntmps46
  go_wp2_with fail
  go_loopw [10] (fun iv wr => ∃ (i : Nat) (r : List Nat), iv = .int .i64 (i : Int) ∧ i ≤ l.length ∧ Hid (r.length = l.length) ∧ Hid (∀ j, j < i → r.getD j 0 = j) ∧ Hid (wr.heap[gb + 1]? = some (.cells (ik .i64 r) 3 (0, 0))) ∧ Hid (Below (gb + 1) W1 wr)) (fun iv _ => l.length - (intOf iv).toNat)
  case atStart => exact ⟨0, _, rfl, by omega, List.length_replicate, fun j hj => by omega, HR0, HB0⟩
  case round =>
    clear HR0 HB0
    obtain ⟨i, r, rfl, hi, HL, HG, HR, HB⟩ := hrel
    by_cases hlt : i < l.length
    · have hi0 : (0 : Int) ≤ (i : Int) := by omega
      have hi1 : (i : Int) < (l.length : Int) := by omega
      have hrl := HL.out
      have cw : wr.cell? ⟨gb + 1, i, none⟩ = some (.int .i64 ((r.getD i 0 : Nat) : Int)) := (cell_of_row wr _ _ _ _ _ HR.out).trans (ik_get _ _ _ (by omega))
      have fw : wr.frozen? ⟨gb + 1, i, none⟩ = false := frozen_of_row wr _ _ _ _ HR.out
      have HR2 : Hid ((wr.setCell ⟨gb + 1, i, none⟩ (.int .i64 (i : Int))).heap[gb + 1]? = some (.cells (ik .i64 (r.set i i)) 3 (0, 0))) := by
        show _ = _
        rw [← ik_set]; exact heap_setCell_same _ _ _ _ _ _ HR.out
      have HB2 : Hid (Below (gb + 1) W1 (wr.setCell ⟨gb + 1, i, none⟩ (.int .i64 (i : Int)))) := HB.out.setCell (Nat.le_refl _) _
      have HL2 : Hid ((r.set i i).length = l.length) := by show _ = _; rw [List.length_set]; exact hrl
      have HG2 : Hid (∀ j, j < i + 1 → (r.set i i).getD j 0 = j) := fun j hj => by
        by_cases h : i = j
        · subst h; simp [List.getD, hrl, hlt]
        · rw [List.getD, List.getElem?_set_ne h, ← List.getD]; exact HG.out j (by omega)
      clear HR HB hrl HG
      generalize r.getD i 0 = x at cw
      go_wp2
      exact ⟨⟨i + 1, _, by rfl, by omega, HL2, HG2, HR2, HB2⟩, by simp only [intOf]; omega⟩
    · have hi1 : ¬ ((i : Int) < (l.length : Int)) := by omega
      have hre : r = List.range l.length := by
        have hrl := HL.out
        apply List.ext_getElem
        · rw [List.length_range]; exact hrl
        · intro j h1 h2
          have := HG.out j (by omega)
          rw [List.getElem_range]
          simpa [List.getD, h1] using this
      have CS : Hid _ := HS.out wr (by rw [← hre]; exact HR.out) HB.out
      clear hre HG HL HR HB HS
      go_wp2_with fail
      refine Calls.mono CS.out ?_
      rintro e w' ⟨rfl, ns, h1, h2, h3⟩
      have HE : Hid _ := And.intro h1 (And.intro h2 h3)
      clear h1 h2 h3
      go_wp2
      go_ret
      exact ⟨gb + 1, ns, rfl, HE.out⟩
end Go.Proofs.Ytceaklefdahfkab
