/- The journal's device: NewDevice of an empty disk. -/
import Derived.Test.YtfimaflglnemdaaDoorJqK
namespace Go.Proofs.YtfimaflglnemdaaDoor.Dev
open Go.RowKit
set_option maxRecDepth 20000
theorem cn_nil {Q : Nat → Prop} {W : World} {c : Array Value} {s : Nat} (h : Cn Q W c [] s) : c = zC := by
  obtain ⟨p, rfl, h1, h2, _⟩ := h
  have hs : s = 0 := by simpa using h2
  subst hs
  generalize hd : ([] : List Nat) = d at h1
  cases h1 with
  | nil => rfl
  | cons g b cap k ah pre D a1 a2 a3 a4 a5 a6 a7 a8 a9 a10 =>
    exfalso
    have := congrArg List.length hd
    rw [List.length_append, List.length_take] at this
    simp at this
    omega
theorem cn_zero (W : World) : Cn (fun _ => False) W zC [] 0 := ⟨none, rfl, .nil, Nat.le_refl _, Nat.zero_le _⟩
theorem bl_nil (W : World) : Bl W (.slice none 0 0) [] := ⟨none, 0, rfl, Nat.le_refl _, Nat.zero_le _, (fun x h => by cases h), fun j u h => by simp [bs] at h⟩
theorem with_zero (W : World) : Calls Tryd.prog 39 #[.agg zC, .slice none 0 0] W fun e w' => e = .returned (.agg zC) ∧ Below W.heap.size W w' :=
  (with_any _ zC [] 0 _ [] W (cn_zero W) (fun _ h => h.elim) (bl_nil W) (Nat.zero_le _)).mono fun e w' ⟨c', h1, h2, h3⟩ => ⟨by rw [h1, cn_nil h2], h3⟩
theorem synced_zero (W : World) : Calls Tryd.prog 40 #[.agg zC] W fun e w' => e = .returned (.agg zC) ∧ Below W.heap.size W w' :=
  (synced_any _ zC [] 0 W (cn_zero W) (fun _ h => h.elim)).mono fun e w' ⟨c', h1, h2, h3⟩ => ⟨by rw [h1, cn_nil h2], h3⟩
def zV : Array Value := #[.pointer none, .int .i64 0, .int .i64 0, .pointer none, .int .i64 0, .int .i64 0, .slice none 0 0]
theorem st_V (w : World) (g o : Nat) (ho : o = 0 ∨ o = 3) (hg : w.heap[g]? = some (.cells zV 93 (0, 0))) : (stC (.pointer (some ⟨g, o, none⟩)) (.agg zC)).run Tryd.prog w = .ok () (w.setRow g zV) := by
  have ht : w.there g o 3 := fun j hj => by
    have e : w.cell? ⟨g, o + j, none⟩ = zV[o + j]? := by rw [cell_of_row _ _ _ _ _ _ hg]
    refine ⟨?_, frozen_of_row _ _ _ _ _ hg⟩
    rw [e, Array.getElem?_eq_getElem (by show o + j < 7; omega)]
    rfl
  have := run_storeAt_mid (P := Tryd.prog) w g o 88 zC ht (by rw [sizeC]; rfl) (by simp [zC, Value.oneCell'])
  unfold stC
  rw [this]
  congr 1
  rcases ho with rfl | rfl
  · simp only [zC, World.setCells]
    rw [setCell_eq_setRow w g 0 _ _ _ _ hg, setCell_eq_setRow _ g _ _ _ _ _ (setRow_heap _ _ _ _ _ _ hg), setRow_setRow, setCell_eq_setRow _ g _ _ _ _ _ (setRow_heap _ _ _ _ _ _ hg), setRow_setRow]
    rfl
  · simp only [zC, World.setCells]
    rw [setCell_eq_setRow w g 3 _ _ _ _ hg, setCell_eq_setRow _ g _ _ _ _ _ (setRow_heap _ _ _ _ _ _ hg), setRow_setRow, setCell_eq_setRow _ g _ _ _ _ _ (setRow_heap _ _ _ _ _ _ hg), setRow_setRow]
    rfl
theorem sizeB : (Tryd.prog.info? 23).map (·.size) = some 1 := by kernel_rfl
theorem ix_B0 (w : World) (a b : Value) : (Instr.index 24 (.agg #[a, b]) (.int .i64 0)).run Tryd.prog w = .ok a w := by
  obtain ⟨i, hi, hs⟩ : ∃ i, Tryd.prog.info? 23 = some i ∧ i.size = 1 := by
    have := sizeB
    cases hq : Tryd.prog.info? 23 with
    | none => rw [hq] at this; cases this
    | some i => rw [hq] at this; exact ⟨i, rfl, by simpa using this⟩
  simp [Instr.index, asIntOf, Sem.run_bind, run_underlying Tryd.underlying24, sizeOf, typeInfo, hi, hs, part, isAgg, run_underlying Tryd.underlying23]
theorem ix_B1 (w : World) (a b : Value) : (Instr.index 24 (.agg #[a, b]) (.int .i64 1)).run Tryd.prog w = .ok b w := by
  obtain ⟨i, hi, hs⟩ : ∃ i, Tryd.prog.info? 23 = some i ∧ i.size = 1 := by
    have := sizeB
    cases hq : Tryd.prog.info? 23 with
    | none => rw [hq] at this; cases this
    | some i => rw [hq] at this; exact ⟨i, rfl, by simpa using this⟩
  simp [Instr.index, asIntOf, Sem.run_bind, run_underlying Tryd.underlying24, sizeOf, typeInfo, hi, hs, part, isAgg, run_underlying Tryd.underlying23]
def NdR (W wr : World) : Prop := Below W.heap.size W wr ∧ wr.heap[W.heap.size + 1]? = some (.cells zV 93 (0, 0))
theorem NdR.drew {W wr : World} (h : NdR W wr) : NdR W wr.drew := ⟨⟨h.1.os, h.1.tape, h.1.output, h.1.size, h.1.block⟩, h.2⟩
theorem NdR.call {W wr Y : World} (h : NdR W wr) (hb : Below wr.heap.size wr Y) : NdR W Y := ⟨h.1.trans (hb.mono h.1.size), (hb.block _ (Array.getElem?_eq_some_iff.1 h.2).1).trans h.2⟩
theorem NdR.set {W wr : World} (h : NdR W wr) : NdR W (wr.setRow (W.heap.size + 1) zV) := ⟨below_setRow h.1 (by omega) _, setRow_heap _ _ _ _ _ _ h.2⟩
section
attribute [local go_sem ↓] toStC Go.wp_at_zero Go.wp_at_succ
set_option maxRecDepth 100000 in
set_option maxHeartbeats 3200000 in
theorem new0_any (W : World) : Calls Tryd.prog 12 #[.agg #[.slice none 0 0, .slice none 0 0]] W fun e w' => e = .returned (.pointer (some ⟨W.heap.size + 1, 0, none⟩)) ∧ NdR W w' := by
  obtain ⟨W2, hW2⟩ : ∃ W2, (W.alloc (.cells #[.slice none 0 0, .slice none 0 0] 26)).alloc (.cells zV 93) = W2 := ⟨_, rfl⟩
  have HS : Hid (NdR W W2) := by rw [← hW2]; exact ⟨below2 _ _ _, row2n _ _ _⟩
  have HW : Hid ((W.alloc (.cells #[.slice none 0 0, .slice none 0 0] 26)).alloc (.cells zV 93) = W2) := hW2
  clear hW2
  unfold zV at HW
  go_enter Tryd.func12, Tryd.ntmps12
  go_wp2_with fail
  rw [HW.out]
  go_loopw [10] (fun iv wr => (iv = .int .i64 0 ∧ Hid (NdR W wr)) ∨ (iv = .int .i64 1 ∧ Hid (NdR W wr)) ∨ (iv = .int .i64 2 ∧ Hid (NdR W wr))) (fun iv _ => 2 - (intOf iv).toNat)
  case atStart => exact .inl ⟨rfl, HS⟩
  case round =>
    have HC1 : Hid (∀ Y, Calls Tryd.prog 39 #[.agg #[.pointer none, .int .i64 0, .int .i64 0], .slice none 0 0] Y fun e w' => e = .returned (.agg #[.pointer none, .int .i64 0, .int .i64 0]) ∧ Below Y.heap.size Y w') := with_zero
    have HC2 : Hid (∀ Y, Calls Tryd.prog 40 #[.agg #[.pointer none, .int .i64 0, .int .i64 0]] Y fun e w' => e = .returned (.agg #[.pointer none, .int .i64 0, .int .i64 0]) ∧ Below Y.heap.size Y w') := synced_zero
    have hx0 := fun w => ix_B0 w (.slice none 0 0) (.slice none 0 0)
    have hx1 := fun w => ix_B1 w (.slice none 0 0) (.slice none 0 0)
    rcases hrel with ⟨rfl, HR⟩ | ⟨rfl, HR⟩ | ⟨rfl, HR⟩
    · go_wp2_with fail
      go_region_with (first
        | (go_at_call 40; refine Calls.mono (HC2.out Y1) ?_; rintro e Y2 ⟨rfl, hY2⟩; have st := st_V Y2 (W.heap.size + 1) 0 (.inl rfl) (HY1.out.call hY2).2; have HY2 : Hid (NdR W (Y2.setRow (W.heap.size + 1) zV)) := (HY1.out.call hY2).set; clear hY2; unfold zC at st)
        | (go_at_call 39; refine Calls.mono (HC1.out wr.drew) ?_; rintro e Y1 ⟨rfl, hY1⟩; have HY1 : Hid (NdR W Y1) := HR.out.drew.call hY1; clear hY1))
      all_goals
        go_wp2_with fail
        go_roundw
        case rel => exact .inr (.inl ⟨by go_num, HY2⟩)
        case measure => simp [intOf]
    · go_wp2_with fail
      go_region_with (first
        | (go_at_call 40; refine Calls.mono (HC2.out Y1) ?_; rintro e Y2 ⟨rfl, hY2⟩; have st := st_V Y2 (W.heap.size + 1) 3 (.inr rfl) (HY1.out.call hY2).2; have HY2 : Hid (NdR W (Y2.setRow (W.heap.size + 1) zV)) := (HY1.out.call hY2).set; clear hY2; unfold zC at st)
        | (go_at_call 39; refine Calls.mono (HC1.out wr.drew) ?_; rintro e Y1 ⟨rfl, hY1⟩; have HY1 : Hid (NdR W Y1) := HR.out.drew.call hY1; clear hY1))
      all_goals
        go_wp2_with fail
        go_roundw
        case rel => exact .inr (.inr ⟨by go_num, HY2⟩)
        case measure => simp [intOf]
    · go_wp2_with fail
      go_ret
      exact ⟨rfl, HR.out⟩
end
end Go.Proofs.YtfimaflglnemdaaDoor.Dev
