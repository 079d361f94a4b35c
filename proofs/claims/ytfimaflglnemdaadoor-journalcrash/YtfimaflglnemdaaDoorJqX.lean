/- Several texts in one: JdN, JdS. -/
import Derived.Test.YtfimaflglnemdaaDoorJqK
import Derived.Test.YtfimaflglnemdaaDoorJqW
/- The journal's device: NewDevice of an empty disk. -/
namespace Go.Proofs.YtfimaflglnemdaaDoor.Dev
open Go.RowKit
set_option maxRecDepth 20000
theorem cn_nil {Q : Nat → Prop} {W : World} {c : Array Value} {s : Nat} (h : Cn Q W c [] s) : c = zC := by
  obtain ⟨p, rfl, h1, h2, _⟩ := h
  have hs : s = 0 := by simpa using h2
  subst hs
  generalize hd : ([] : List Nat) = d at h1
  cases h1 with
  | nil => rfl
  | cons g b cap k ah pre D a1 a2 a3 a4 a5 a6 a7 a8 a9 a10 =>
    exfalso
    have := congrArg List.length hd
    rw [List.length_append, List.length_take] at this
    simp at this
    omega
theorem cn_zero (W : World) : Cn (fun _ => False) W zC [] 0 := ⟨none, rfl, .nil, Nat.le_refl _, Nat.zero_le _⟩
theorem bl_nil (W : World) : Bl W (.slice none 0 0) [] := ⟨none, 0, rfl, Nat.le_refl _, Nat.zero_le _, (fun x h => by cases h), fun j u h => by simp [bs] at h⟩
theorem with_zero (W : World) : Calls Tryd.prog 39 #[.agg zC, .slice none 0 0] W fun e w' => e = .returned (.agg zC) ∧ Below W.heap.size W w' :=
  (with_any _ zC [] 0 _ [] W (cn_zero W) (fun _ h => h.elim) (bl_nil W) (Nat.zero_le _)).mono fun e w' ⟨c', h1, h2, h3⟩ => ⟨by rw [h1, cn_nil h2], h3⟩
theorem synced_zero (W : World) : Calls Tryd.prog 40 #[.agg zC] W fun e w' => e = .returned (.agg zC) ∧ Below W.heap.size W w' :=
  (synced_any _ zC [] 0 W (cn_zero W) (fun _ h => h.elim)).mono fun e w' ⟨c', h1, h2, h3⟩ => ⟨by rw [h1, cn_nil h2], h3⟩
def zV : Array Value := #[.pointer none, .int .i64 0, .int .i64 0, .pointer none, .int .i64 0, .int .i64 0, .slice none 0 0]
theorem st_V (w : World) (g o : Nat) (ho : o = 0 ∨ o = 3) (hg : w.heap[g]? = some (.cells zV 93 (0, 0))) : (stC (.pointer (some ⟨g, o, none⟩)) (.agg zC)).run Tryd.prog w = .ok () (w.setRow g zV) := by
  have ht : w.there g o 3 := fun j hj => by
    have e : w.cell? ⟨g, o + j, none⟩ = zV[o + j]? := by rw [cell_of_row _ _ _ _ _ _ hg]
    refine ⟨?_, frozen_of_row _ _ _ _ _ hg⟩
    rw [e, Array.getElem?_eq_getElem (by show o + j < 7; omega)]
    rfl
  have := run_storeAt_mid (P := Tryd.prog) w g o 88 zC ht (by rw [sizeC]; rfl) (by simp [zC, Value.oneCell'])
  unfold stC
  rw [this]
  congr 1
  rcases ho with rfl | rfl
  · simp only [zC, World.setCells]
    rw [setCell_eq_setRow w g 0 _ _ _ _ hg, setCell_eq_setRow _ g _ _ _ _ _ (setRow_heap _ _ _ _ _ _ hg), setRow_setRow, setCell_eq_setRow _ g _ _ _ _ _ (setRow_heap _ _ _ _ _ _ hg), setRow_setRow]
    rfl
  · simp only [zC, World.setCells]
    rw [setCell_eq_setRow w g 3 _ _ _ _ hg, setCell_eq_setRow _ g _ _ _ _ _ (setRow_heap _ _ _ _ _ _ hg), setRow_setRow, setCell_eq_setRow _ g _ _ _ _ _ (setRow_heap _ _ _ _ _ _ hg), setRow_setRow]
    rfl
theorem sizeB : (Tryd.prog.info? 23).map (·.size) = some 1 := by kernel_rfl
theorem ix_B0 (w : World) (a b : Value) : (Instr.index 24 (.agg #[a, b]) (.int .i64 0)).run Tryd.prog w = .ok a w := by
  obtain ⟨i, hi, hs⟩ : ∃ i, Tryd.prog.info? 23 = some i ∧ i.size = 1 := by
    have := sizeB
    cases hq : Tryd.prog.info? 23 with
    | none => rw [hq] at this; cases this
    | some i => rw [hq] at this; exact ⟨i, rfl, by simpa using this⟩
  simp [Instr.index, asIntOf, Sem.run_bind, run_underlying Tryd.underlying24, sizeOf, typeInfo, hi, hs, part, isAgg, run_underlying Tryd.underlying23]
theorem ix_B1 (w : World) (a b : Value) : (Instr.index 24 (.agg #[a, b]) (.int .i64 1)).run Tryd.prog w = .ok b w := by
  obtain ⟨i, hi, hs⟩ : ∃ i, Tryd.prog.info? 23 = some i ∧ i.size = 1 := by
    have := sizeB
    cases hq : Tryd.prog.info? 23 with
    | none => rw [hq] at this; cases this
    | some i => rw [hq] at this; exact ⟨i, rfl, by simpa using this⟩
  simp [Instr.index, asIntOf, Sem.run_bind, run_underlying Tryd.underlying24, sizeOf, typeInfo, hi, hs, part, isAgg, run_underlying Tryd.underlying23]
def NdR (W wr : World) : Prop := Below W.heap.size W wr ∧ wr.heap[W.heap.size + 1]? = some (.cells zV 93 (0, 0))
theorem NdR.drew {W wr : World} (h : NdR W wr) : NdR W wr.drew := ⟨⟨h.1.os, h.1.tape, h.1.output, h.1.size, h.1.block⟩, h.2⟩
theorem NdR.call {W wr Y : World} (h : NdR W wr) (hb : Below wr.heap.size wr Y) : NdR W Y := ⟨h.1.trans (hb.mono h.1.size), (hb.block _ (Array.getElem?_eq_some_iff.1 h.2).1).trans h.2⟩
theorem NdR.set {W wr : World} (h : NdR W wr) : NdR W (wr.setRow (W.heap.size + 1) zV) := ⟨below_setRow h.1 (by omega) _, setRow_heap _ _ _ _ _ _ h.2⟩
section
attribute [local go_sem ↓] toStC Go.wp_at_zero Go.wp_at_succ
set_option maxRecDepth 100000 in
set_option maxHeartbeats 3200000 in
theorem new0_any (W : World) : Calls Tryd.prog 12 #[.agg #[.slice none 0 0, .slice none 0 0]] W fun e w' => e = .returned (.pointer (some ⟨W.heap.size + 1, 0, none⟩)) ∧ NdR W w' := by
  obtain ⟨W2, hW2⟩ : ∃ W2, (W.alloc (.cells #[.slice none 0 0, .slice none 0 0] 26)).alloc (.cells zV 93) = W2 := ⟨_, rfl⟩
  have HS : Hid (NdR W W2) := by rw [← hW2]; exact ⟨below2 _ _ _, row2n _ _ _⟩
  have HW : Hid ((W.alloc (.cells #[.slice none 0 0, .slice none 0 0] 26)).alloc (.cells zV 93) = W2) := hW2
  clear hW2
  unfold zV at HW
  go_enter Tryd.func12, Tryd.ntmps12
  go_wp2_with fail
  rw [HW.out]
  go_loopw [10] (fun iv wr => (iv = .int .i64 0 ∧ Hid (NdR W wr)) ∨ (iv = .int .i64 1 ∧ Hid (NdR W wr)) ∨ (iv = .int .i64 2 ∧ Hid (NdR W wr))) (fun iv _ => 2 - (intOf iv).toNat)
  case atStart => exact .inl ⟨rfl, HS⟩
  case round =>
    have HC1 : Hid (∀ Y, Calls Tryd.prog 39 #[.agg #[.pointer none, .int .i64 0, .int .i64 0], .slice none 0 0] Y fun e w' => e = .returned (.agg #[.pointer none, .int .i64 0, .int .i64 0]) ∧ Below Y.heap.size Y w') := with_zero
    have HC2 : Hid (∀ Y, Calls Tryd.prog 40 #[.agg #[.pointer none, .int .i64 0, .int .i64 0]] Y fun e w' => e = .returned (.agg #[.pointer none, .int .i64 0, .int .i64 0]) ∧ Below Y.heap.size Y w') := synced_zero
    have hx0 := fun w => ix_B0 w (.slice none 0 0) (.slice none 0 0)
    have hx1 := fun w => ix_B1 w (.slice none 0 0) (.slice none 0 0)
    rcases hrel with ⟨rfl, HR⟩ | ⟨rfl, HR⟩ | ⟨rfl, HR⟩
    · go_wp2_with fail
      go_region_with (first
        | (go_at_call 40; refine Calls.mono (HC2.out Y1) ?_; rintro e Y2 ⟨rfl, hY2⟩; have st := st_V Y2 (W.heap.size + 1) 0 (.inl rfl) (HY1.out.call hY2).2; have HY2 : Hid (NdR W (Y2.setRow (W.heap.size + 1) zV)) := (HY1.out.call hY2).set; clear hY2; unfold zC at st)
        | (go_at_call 39; refine Calls.mono (HC1.out wr.drew) ?_; rintro e Y1 ⟨rfl, hY1⟩; have HY1 : Hid (NdR W Y1) := HR.out.drew.call hY1; clear hY1))
      all_goals
        go_wp2_with fail
        go_roundw
        case rel => exact .inr (.inl ⟨by go_num, HY2⟩)
        case measure => simp [intOf]
    · go_wp2_with fail
      go_region_with (first
        | (go_at_call 40; refine Calls.mono (HC2.out Y1) ?_; rintro e Y2 ⟨rfl, hY2⟩; have st := st_V Y2 (W.heap.size + 1) 3 (.inr rfl) (HY1.out.call hY2).2; have HY2 : Hid (NdR W (Y2.setRow (W.heap.size + 1) zV)) := (HY1.out.call hY2).set; clear hY2; unfold zC at st)
        | (go_at_call 39; refine Calls.mono (HC1.out wr.drew) ?_; rintro e Y1 ⟨rfl, hY1⟩; have HY1 : Hid (NdR W Y1) := HR.out.drew.call hY1; clear hY1))
      all_goals
        go_wp2_with fail
        go_roundw
        case rel => exact .inr (.inr ⟨by go_num, HY2⟩)
        case measure => simp [intOf]
    · go_wp2_with fail
      go_ret
      exact ⟨rfl, HR.out⟩
end
end Go.Proofs.YtfimaflglnemdaaDoor.Dev

/- The journal's device: NewDevice of any disk. -/
namespace Go.Proofs.YtfimaflglnemdaaDoor.Dev
open Go.RowKit
set_option maxRecDepth 20000
theorem st_W0 (w : World) (g : Nat) (a b c c0 c1 c2 c3 c4 c5 c6 : Value) (h1 : (#[a, b, c] : Array Value).all (·.oneCell') = true) (hg : w.heap[g]? = some (.cells #[c0, c1, c2, c3, c4, c5, c6] 93 (0, 0))) : (stC (.pointer (some ⟨g, 0, none⟩)) (.agg #[a, b, c])).run Tryd.prog w = .ok () (w.setRow g #[a, b, c, c3, c4, c5, c6]) := by
  have ht : w.there g 0 3 := fun j hj => by
    have e : w.cell? ⟨g, 0 + j, none⟩ = (#[c0, c1, c2, c3, c4, c5, c6] : Array Value)[0 + j]? := by rw [cell_of_row _ _ _ _ _ _ hg]
    refine ⟨?_, frozen_of_row _ _ _ _ _ hg⟩
    rw [e, Array.getElem?_eq_getElem (by simp; omega)]
    rfl
  have := run_storeAt_mid (P := Tryd.prog) w g 0 88 #[a, b, c] ht (by rw [sizeC]; rfl) h1
  unfold stC
  rw [this]
  congr 1
  simp only [World.setCells]
  rw [setCell_eq_setRow w g 0 _ _ _ _ hg, setCell_eq_setRow _ g _ _ _ _ _ (setRow_heap _ _ _ _ _ _ hg), setRow_setRow, setCell_eq_setRow _ g _ _ _ _ _ (setRow_heap _ _ _ _ _ _ hg), setRow_setRow]
  rfl
theorem st_W1 (w : World) (g : Nat) (a b c c0 c1 c2 c3 c4 c5 c6 : Value) (h1 : (#[a, b, c] : Array Value).all (·.oneCell') = true) (hg : w.heap[g]? = some (.cells #[c0, c1, c2, c3, c4, c5, c6] 93 (0, 0))) : (stC (.pointer (some ⟨g, 3, none⟩)) (.agg #[a, b, c])).run Tryd.prog w = .ok () (w.setRow g #[c0, c1, c2, a, b, c, c6]) := by
  have ht : w.there g 3 3 := fun j hj => by
    have e : w.cell? ⟨g, 3 + j, none⟩ = (#[c0, c1, c2, c3, c4, c5, c6] : Array Value)[3 + j]? := by rw [cell_of_row _ _ _ _ _ _ hg]
    refine ⟨?_, frozen_of_row _ _ _ _ _ hg⟩
    rw [e, Array.getElem?_eq_getElem (by simp; omega)]
    rfl
  have := run_storeAt_mid (P := Tryd.prog) w g 3 88 #[a, b, c] ht (by rw [sizeC]; rfl) h1
  unfold stC
  rw [this]
  congr 1
  simp only [World.setCells]
  rw [setCell_eq_setRow w g 3 _ _ _ _ hg, setCell_eq_setRow _ g _ _ _ _ _ (setRow_heap _ _ _ _ _ _ hg), setRow_setRow, setCell_eq_setRow _ g _ _ _ _ _ (setRow_heap _ _ _ _ _ _ hg), setRow_setRow]
  rfl
def Qn (W wr : World) (g : Nat) : Prop := W.heap.size ≤ g ∧ g < wr.heap.size ∧ g ≠ W.heap.size + 1
/-- A device in the making. -/
def NdG (W : World) (x : Sp) (wr : World) : Prop := Below W.heap.size W wr ∧ ∃ p0 p1, wr.heap[W.heap.size + 1]? = some (.cells #[.pointer p0, .int .i64 (x.1.1.length : Int), .int .i64 (x.1.2 : Int), .pointer p1, .int .i64 (x.2.1.length : Int), .int .i64 (x.2.2 : Int), .slice none 0 0] 93 (0, 0)) ∧ Cn (Qn W wr) wr (cnA p0 x.1.1.length x.1.2) x.1.1 x.1.2 ∧ Cn (Qn W wr) wr (cnA p1 x.2.1.length x.2.2) x.2.1 x.2.2
theorem NdG.below {W wr Y : World} {x : Sp} (h : NdG W x wr) (hb : Below wr.heap.size wr Y) : NdG W x Y := by
  obtain ⟨h1, p0, p1, h2, h3, h4⟩ := h
  exact ⟨h1.trans (hb.mono h1.size), p0, p1, (hb.block _ (Array.getElem?_eq_some_iff.1 h2).1).trans h2, h3.keep (fun j hj => hb.block j hj.2.1) (fun j hj => ⟨hj.1, Nat.lt_of_lt_of_le hj.2.1 hb.size, hj.2.2⟩), h4.keep (fun j hj => hb.block j hj.2.1) (fun j hj => ⟨hj.1, Nat.lt_of_lt_of_le hj.2.1 hb.size, hj.2.2⟩)⟩
theorem NdG.drew {W wr : World} {x : Sp} (h : NdG W x wr) : NdG W x wr.drew := h.below ⟨rfl, rfl, rfl, Nat.le_refl _, fun _ _ => rfl⟩
theorem NdG.put0 {W Y : World} {x : Sp} (h : NdG W x Y) {c : Array Value} {l : List Nat} (hc : Cn (Qn W Y) Y c l l.length) : ∃ p n, c = #[.pointer p, .int .i64 (n : Int), .int .i64 (n : Int)] ∧ ∃ R, (stC (.pointer (some ⟨W.heap.size + 1, 0, none⟩)) (.agg #[.pointer p, .int .i64 (n : Int), .int .i64 (n : Int)])).run Tryd.prog Y = .ok () (Y.setRow (W.heap.size + 1) R) ∧ NdG W ((l, l.length), x.2) (Y.setRow (W.heap.size + 1) R) := by
  obtain ⟨h1, p0, p1, h2, h3, h4⟩ := h
  obtain ⟨p, rfl, hc2⟩ := id hc
  have kp : ∀ j, Qn W Y j → (Y.setRow (W.heap.size + 1) #[.pointer p, .int .i64 (l.length : Int), .int .i64 (l.length : Int), .pointer p1, .int .i64 (x.2.1.length : Int), .int .i64 (x.2.2 : Int), .slice none 0 0]).heap[j]? = Y.heap[j]? := fun j hj => setRow_other _ _ _ _ hj.2.2
  refine ⟨p, l.length, rfl, _, st_W0 Y _ _ _ _ _ _ _ _ _ _ _ (by simp [Value.oneCell']) h2, below_setRow h1 (by omega) _, p, p1, setRow_heap _ _ _ _ _ _ h2, ?_, ?_⟩
  · exact hc.keep kp (fun j hj => ⟨hj.1, by simpa using hj.2.1, hj.2.2⟩)
  · exact h4.keep kp (fun j hj => ⟨hj.1, by simpa using hj.2.1, hj.2.2⟩)
theorem NdG.put1 {W Y : World} {x : Sp} (h : NdG W x Y) {c : Array Value} {l : List Nat} (hc : Cn (Qn W Y) Y c l l.length) : ∃ p n, c = #[.pointer p, .int .i64 (n : Int), .int .i64 (n : Int)] ∧ ∃ R, (stC (.pointer (some ⟨W.heap.size + 1, 3, none⟩)) (.agg #[.pointer p, .int .i64 (n : Int), .int .i64 (n : Int)])).run Tryd.prog Y = .ok () (Y.setRow (W.heap.size + 1) R) ∧ NdG W (x.1, (l, l.length)) (Y.setRow (W.heap.size + 1) R) := by
  obtain ⟨h1, p0, p1, h2, h3, h4⟩ := h
  obtain ⟨p, rfl, hc2⟩ := id hc
  have kp : ∀ j, Qn W Y j → (Y.setRow (W.heap.size + 1) #[.pointer p0, .int .i64 (x.1.1.length : Int), .int .i64 (x.1.2 : Int), .pointer p, .int .i64 (l.length : Int), .int .i64 (l.length : Int), .slice none 0 0]).heap[j]? = Y.heap[j]? := fun j hj => setRow_other _ _ _ _ hj.2.2
  refine ⟨p, l.length, rfl, _, st_W1 Y _ _ _ _ _ _ _ _ _ _ _ (by simp [Value.oneCell']) h2, below_setRow h1 (by omega) _, p0, p, setRow_heap _ _ _ _ _ _ h2, ?_, ?_⟩
  · exact h3.keep kp (fun j hj => ⟨hj.1, by simpa using hj.2.1, hj.2.2⟩)
  · exact hc.keep kp (fun j hj => ⟨hj.1, by simpa using hj.2.1, hj.2.2⟩)
/-- The new content of a file, both calls. -/
theorem nd_with (W : World) {Y : World} {x : Sp} (h : NdG W x Y) (u : Value) (l : List Nat) (hl : Bl Y u l) (hlim : l.length ≤ LIM) : Calls Tryd.prog 39 #[.agg #[.pointer none, .int .i64 0, .int .i64 0], u] Y fun e w' => ∃ c', e = .returned (.agg c') ∧ Cn (Qn W w') w' c' l 0 ∧ NdG W x w' := by
  have hz : W.heap.size + 1 < Y.heap.size := by obtain ⟨_, _, _, h2, _⟩ := h; exact (Array.getElem?_eq_some_iff.1 h2).1
  refine (with_any _ zC [] 0 u l Y (cn_zero Y) (fun _ h => h.elim) hl (by simpa using hlim)).mono fun _ w' ⟨c', h1, h2, h3⟩ => ⟨c', h1, ?_, h.below h3⟩
  rw [List.nil_append] at h2
  exact h2.keep (fun _ _ => rfl) (fun _ hj => by rcases hj with q | q; exact q.elim; exact ⟨by omega, q.2, by omega⟩)
theorem nd_sync (W : World) {Y : World} {x : Sp} (h : NdG W x Y) (c : Array Value) (l : List Nat) (hc : Cn (Qn W Y) Y c l 0) : Calls Tryd.prog 40 #[.agg c] Y fun e w' => ∃ c', e = .returned (.agg c') ∧ Cn (Qn W w') w' c' l l.length ∧ NdG W x w' :=
  (synced_any _ c l 0 Y hc (fun _ hj => hj.2.1)).mono fun _ _ ⟨c', h1, h2, h3⟩ => ⟨c', h1, h2.keep (fun _ _ => rfl) (fun _ hj => ⟨hj.1, Nat.lt_of_lt_of_le hj.2.1 h3.size, hj.2.2⟩), h.below h3⟩
theorem dv_of [Inhabited HoleT] {W w : World} {x : Sp} (h : NdG W x w) (hH : holeB ≤ W.heap.size) : ∃ f, Dv W.heap.size w (W.heap.size + 1) (.slice none 0 0) f [] [x] := by
  obtain ⟨h1, p0, p1, h2, h3, h4⟩ := h
  refine ⟨momA p0 x.1.1.length x.1.2 p1 x.2.1.length x.2.2, h2, World.ownsRow_nil _ _ _ _, rfl, fun i m s q1 q2 => ?_, by omega, Nat.le_trans hH h1.size⟩
  have hi : i = 0 := by have := (List.getElem?_eq_some_iff.1 q1).1; simpa using this
  subst hi
  obtain rfl : _ = m := by simpa using q1
  obtain rfl : x = s := by simpa using q2
  have hq : ∀ j, Qn W w j → Qd W.heap.size w (W.heap.size + 1) (.slice none 0 0) j := fun j hj => ⟨⟨hj.1, hole_ok (Nat.le_trans hH hj.1)⟩, hj.2.1, hj.2.2, by simp [Value.ownBlock]⟩
  exact ⟨p0, p1, rfl, h3.keep (fun _ _ => rfl) hq, h4.keep (fun _ _ => rfl) hq⟩
section
attribute [local go_sem ↓] toStC Go.wp_at_zero Go.wp_at_succ
set_option maxRecDepth 100000 in
set_option maxHeartbeats 3200000 in
theorem new_any (W : World) (u0 u1 : Value) (l0 l1 : List Nat) (h0 : Bl W u0 l0) (h1 : Bl W u1 l1) (hl0 : l0.length ≤ LIM) (hl1 : l1.length ≤ LIM) : Calls Tryd.prog 12 #[.agg #[u0, u1]] W fun e w' => e = .returned (.pointer (some ⟨W.heap.size + 1, 0, none⟩)) ∧ NdG W ((l0, l0.length), (l1, l1.length)) w' := by
  obtain ⟨W2, hW2⟩ : ∃ W2, (W.alloc (.cells #[u0, u1] 26)).alloc (.cells zV 93) = W2 := ⟨_, rfl⟩
  have HS : Hid (NdG W (([], 0), ([], 0)) W2) := by
    rw [← hW2]
    exact ⟨below2 _ _ _, none, none, row2n _ _ _, ⟨none, rfl, .nil, Nat.le_refl _, Nat.zero_le _⟩, ⟨none, rfl, .nil, Nat.le_refl _, Nat.zero_le _⟩⟩
  have HB : Hid (Bl W u0 l0 ∧ Bl W u1 l1 ∧ l0.length ≤ LIM ∧ l1.length ≤ LIM) := ⟨h0, h1, hl0, hl1⟩
  obtain ⟨o0, c0, hu0, -⟩ := id h0
  obtain ⟨o1, c1, hu1, -⟩ := id h1
  subst hu0 hu1
  have HW : Hid ((W.alloc (.cells #[.slice o0 l0.length c0, .slice o1 l1.length c1] 26)).alloc (.cells zV 93) = W2) := hW2
  clear hW2 h0 h1 hl0 hl1
  unfold zV at HW
  go_enter Tryd.func12, Tryd.ntmps12
  go_wp2_with fail
  rw [HW.out]
  go_loopw [10] (fun iv wr => (iv = .int .i64 0 ∧ Hid (NdG W (([], 0), ([], 0)) wr)) ∨ (iv = .int .i64 1 ∧ Hid (NdG W ((l0, l0.length), ([], 0)) wr)) ∨ (iv = .int .i64 2 ∧ Hid (NdG W ((l0, l0.length), (l1, l1.length)) wr))) (fun iv _ => 2 - (intOf iv).toNat)
  case atStart => exact .inl ⟨rfl, HS⟩
  case round =>
    have hx0 := fun w => ix_B0 w (.slice o0 l0.length c0) (.slice o1 l1.length c1)
    have hx1 := fun w => ix_B1 w (.slice o0 l0.length c0) (.slice o1 l1.length c1)
    rcases hrel with ⟨rfl, HR⟩ | ⟨rfl, HR⟩ | ⟨rfl, HR⟩
    · have HC1 : Hid _ := nd_with W HR.out.drew (.slice o0 l0.length c0) l0 (HB.out.1.below HR.out.drew.1) HB.out.2.2.1
      go_wp2_with fail
      go_region_with (first
        | (go_at_call 40; refine Calls.mono HSY.out ?_; rintro e Y2 ⟨c2, rfl, hc2, hY2⟩; obtain ⟨pc, nc, hce, RR, st, hN⟩ := hY2.put0 hc2; have HY2 : Hid _ := hN; subst hce; clear hc2 hY2 hN)
        | (go_at_call 39; refine Calls.mono HC1.out ?_; rintro e Y1 ⟨c1', rfl, hc1, hY1⟩; obtain ⟨pq, hpq, -⟩ := id hc1; subst hpq; have HSY : Hid (Calls Tryd.prog 40 #[.agg #[.pointer pq, .int .i64 (l0.length : Int), .int .i64 0]] Y1 fun e w' => ∃ c', e = .returned (.agg c') ∧ Cn (Qn W w') w' c' l0 l0.length ∧ NdG W (([], 0), ([], 0)) w') := nd_sync W hY1 _ l0 hc1; clear hY1 hc1; unfold cnA))
      all_goals
        go_wp2_with fail
        go_roundw
        case rel => exact .inr (.inl ⟨by go_num, HY2⟩)
        case measure => simp [intOf]
    · have HC1 : Hid _ := nd_with W HR.out.drew (.slice o1 l1.length c1) l1 (HB.out.2.1.below HR.out.drew.1) HB.out.2.2.2
      go_wp2_with fail
      go_region_with (first
        | (go_at_call 40; refine Calls.mono HSY.out ?_; rintro e Y2 ⟨c2, rfl, hc2, hY2⟩; obtain ⟨pc, nc, hce, RR, st, hN⟩ := hY2.put1 hc2; have HY2 : Hid _ := hN; subst hce; clear hc2 hY2 hN)
        | (go_at_call 39; refine Calls.mono HC1.out ?_; rintro e Y1 ⟨c1', rfl, hc1, hY1⟩; obtain ⟨pq, hpq, -⟩ := id hc1; subst hpq; have HSY : Hid (Calls Tryd.prog 40 #[.agg #[.pointer pq, .int .i64 (l1.length : Int), .int .i64 0]] Y1 fun e w' => ∃ c', e = .returned (.agg c') ∧ Cn (Qn W w') w' c' l1 l1.length ∧ NdG W ((l0, l0.length), ([], 0)) w') := nd_sync W hY1 _ l1 hc1; clear hY1 hc1; unfold cnA))
      all_goals
        go_wp2_with fail
        go_roundw
        case rel => exact .inr (.inr ⟨by go_num, HY2⟩)
        case measure => simp [intOf]
    · go_wp2_with fail
      go_ret
      exact ⟨rfl, HR.out⟩
end
end Go.Proofs.YtfimaflglnemdaaDoor.Dev
