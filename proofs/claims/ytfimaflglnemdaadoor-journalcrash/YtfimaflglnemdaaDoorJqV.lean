/- Several texts in one: JrZa, JrZb. -/
import Derived.Test.YtfimaflglnemdaaDoorJqU
/- JournalReplays: Replay, the region that takes both stories. -/
namespace Go.Proofs.YtfimaflglnemdaaDoor
open Go.RowKit
open JM
def zS : Array Value := #[.int .i64 0, .int .i64 0, .int .i64 0, .int .i64 0, .slice none 0 0, .slice none 0 0]
noncomputable def reg12r : Array Oper := (((Tryd.f28).body.bind (findR 12)).getD #[])
theorem okR12r : okR reg12r 72 = true := by kernel_rfl
theorem size12r : reg12r.size = 8 := by kernel_rfl
structure JC (ar : Nat) (cx cy : Array Value) (wr : World) (l : Array Bool) (X : Nat → Value) (w : World) : Prop where
  x0 : l.getD 0 false = true → X 0 = .pointer (some ⟨ar, 0, none⟩)
  x1 : l.getD 1 false = true → X 1 = .agg cx
  x2 : l.getD 2 false = true → X 2 = .pointer (some ⟨ar, 6, none⟩)
  x3 : l.getD 3 false = true → X 3 = .agg cy
  x4 : l.getD 4 false = true → ∃ b : Nat, X 4 = .pointer (some ⟨b, 0, none⟩) ∧ wr.heap.size ≤ b ∧ b < w.heap.size ∧ (l.getD 6 false = false → w.heap[b]? = some (.cells zS 47 (0, 0))) ∧ (l.getD 6 false = true → w.heap[b]? = some (.cells cx 47 (0, 0)))
  x5 : l.getD 5 false = true → ∃ b : Nat, X 5 = .pointer (some ⟨b, 0, none⟩) ∧ wr.heap.size ≤ b ∧ b < w.heap.size ∧ (l.getD 7 false = false → w.heap[b]? = some (.cells zS 47 (0, 0))) ∧ (l.getD 7 false = true → w.heap[b]? = some (.cells cy 47 (0, 0)))
  ne : l.getD 4 false = true → l.getD 5 false = true → X 4 ≠ X 5
  d6 : l.getD 6 false = true → l.getD 4 false = true
  d7 : l.getD 7 false = true → l.getD 5 false = true
  s : Below wr.heap.size wr w
theorem JC.world {ar : Nat} {cx cy : Array Value} {wr : World} {l : Array Bool} {X : Nat → Value} {w w' : World} (h : JC ar cx cy wr l X w) (hb : Below w.heap.size w w') : JC ar cx cy wr l X w' := by
  refine ⟨h.x0, h.x1, h.x2, h.x3, fun hl => ?_, fun hl => ?_, h.ne, h.d6, h.d7, h.s.trans (hb.mono h.s.size)⟩
  · obtain ⟨b, e, h1, h2, h3, h4⟩ := h.x4 hl
    exact ⟨b, e, h1, Nat.lt_of_lt_of_le h2 hb.size, fun q => (hb.block b h2).trans (h3 q), fun q => (hb.block b h2).trans (h4 q)⟩
  · obtain ⟨b, e, h1, h2, h3, h4⟩ := h.x5 hl
    exact ⟨b, e, h1, Nat.lt_of_lt_of_le h2 hb.size, fun q => (hb.block b h2).trans (h3 q), fun q => (hb.block b h2).trans (h4 q)⟩
theorem JC.set0 {ar : Nat} {cx cy : Array Value} {wr : World} {l : Array Bool} {X : Nat → Value} {w : World} (h : JC ar cx cy wr l X w) (hs : l.size = 8) : JC ar cx cy wr (l.setIfInBounds 0 true) (updX X 0 (.pointer (some ⟨ar, 0, none⟩))) w :=
  ⟨fun _ => rfl,
    fun hl => h.x1 (gne 1 (by omega) (by decide) hl),
    fun hl => h.x2 (gne 2 (by omega) (by decide) hl),
    fun hl => h.x3 (gne 3 (by omega) (by decide) hl),
    fun hl => let ⟨b, e1, e2, e3, e4, e5⟩ := h.x4 (gne 4 (by omega) (by decide) hl); ⟨b, e1, e2, e3, fun q => e4 (gnf 6 (by omega) (by decide) q), fun q => e5 (gne 6 (by omega) (by decide) q)⟩,
    fun hl => let ⟨b, e1, e2, e3, e4, e5⟩ := h.x5 (gne 5 (by omega) (by decide) hl); ⟨b, e1, e2, e3, fun q => e4 (gnf 7 (by omega) (by decide) q), fun q => e5 (gne 7 (by omega) (by decide) q)⟩,
    fun h4 h5 => h.ne (gne 4 (by omega) (by decide) h4) (gne 5 (by omega) (by decide) h5),
    fun hl => gnt 4 (by omega) (h.d6 (gne 6 (by omega) (by decide) hl)),
    fun hl => gnt 5 (by omega) (h.d7 (gne 7 (by omega) (by decide) hl)),
    h.s⟩
theorem JC.set1 {ar : Nat} {cx cy : Array Value} {wr : World} {l : Array Bool} {X : Nat → Value} {w : World} (h : JC ar cx cy wr l X w) (hs : l.size = 8) : JC ar cx cy wr (l.setIfInBounds 1 true) (updX X 1 (.agg cx)) w :=
  ⟨fun hl => h.x0 (gne 0 (by omega) (by decide) hl),
    fun _ => rfl,
    fun hl => h.x2 (gne 2 (by omega) (by decide) hl),
    fun hl => h.x3 (gne 3 (by omega) (by decide) hl),
    fun hl => let ⟨b, e1, e2, e3, e4, e5⟩ := h.x4 (gne 4 (by omega) (by decide) hl); ⟨b, e1, e2, e3, fun q => e4 (gnf 6 (by omega) (by decide) q), fun q => e5 (gne 6 (by omega) (by decide) q)⟩,
    fun hl => let ⟨b, e1, e2, e3, e4, e5⟩ := h.x5 (gne 5 (by omega) (by decide) hl); ⟨b, e1, e2, e3, fun q => e4 (gnf 7 (by omega) (by decide) q), fun q => e5 (gne 7 (by omega) (by decide) q)⟩,
    fun h4 h5 => h.ne (gne 4 (by omega) (by decide) h4) (gne 5 (by omega) (by decide) h5),
    fun hl => gnt 4 (by omega) (h.d6 (gne 6 (by omega) (by decide) hl)),
    fun hl => gnt 5 (by omega) (h.d7 (gne 7 (by omega) (by decide) hl)),
    h.s⟩
theorem JC.set2 {ar : Nat} {cx cy : Array Value} {wr : World} {l : Array Bool} {X : Nat → Value} {w : World} (h : JC ar cx cy wr l X w) (hs : l.size = 8) : JC ar cx cy wr (l.setIfInBounds 2 true) (updX X 2 (.pointer (some ⟨ar, 6, none⟩))) w :=
  ⟨fun hl => h.x0 (gne 0 (by omega) (by decide) hl),
    fun hl => h.x1 (gne 1 (by omega) (by decide) hl),
    fun _ => rfl,
    fun hl => h.x3 (gne 3 (by omega) (by decide) hl),
    fun hl => let ⟨b, e1, e2, e3, e4, e5⟩ := h.x4 (gne 4 (by omega) (by decide) hl); ⟨b, e1, e2, e3, fun q => e4 (gnf 6 (by omega) (by decide) q), fun q => e5 (gne 6 (by omega) (by decide) q)⟩,
    fun hl => let ⟨b, e1, e2, e3, e4, e5⟩ := h.x5 (gne 5 (by omega) (by decide) hl); ⟨b, e1, e2, e3, fun q => e4 (gnf 7 (by omega) (by decide) q), fun q => e5 (gne 7 (by omega) (by decide) q)⟩,
    fun h4 h5 => h.ne (gne 4 (by omega) (by decide) h4) (gne 5 (by omega) (by decide) h5),
    fun hl => gnt 4 (by omega) (h.d6 (gne 6 (by omega) (by decide) hl)),
    fun hl => gnt 5 (by omega) (h.d7 (gne 7 (by omega) (by decide) hl)),
    h.s⟩
theorem JC.set3 {ar : Nat} {cx cy : Array Value} {wr : World} {l : Array Bool} {X : Nat → Value} {w : World} (h : JC ar cx cy wr l X w) (hs : l.size = 8) : JC ar cx cy wr (l.setIfInBounds 3 true) (updX X 3 (.agg cy)) w :=
  ⟨fun hl => h.x0 (gne 0 (by omega) (by decide) hl),
    fun hl => h.x1 (gne 1 (by omega) (by decide) hl),
    fun hl => h.x2 (gne 2 (by omega) (by decide) hl),
    fun _ => rfl,
    fun hl => let ⟨b, e1, e2, e3, e4, e5⟩ := h.x4 (gne 4 (by omega) (by decide) hl); ⟨b, e1, e2, e3, fun q => e4 (gnf 6 (by omega) (by decide) q), fun q => e5 (gne 6 (by omega) (by decide) q)⟩,
    fun hl => let ⟨b, e1, e2, e3, e4, e5⟩ := h.x5 (gne 5 (by omega) (by decide) hl); ⟨b, e1, e2, e3, fun q => e4 (gnf 7 (by omega) (by decide) q), fun q => e5 (gne 7 (by omega) (by decide) q)⟩,
    fun h4 h5 => h.ne (gne 4 (by omega) (by decide) h4) (gne 5 (by omega) (by decide) h5),
    fun hl => gnt 4 (by omega) (h.d6 (gne 6 (by omega) (by decide) hl)),
    fun hl => gnt 5 (by omega) (h.d7 (gne 7 (by omega) (by decide) hl)),
    h.s⟩
theorem JC.set4 {ar : Nat} {cx cy : Array Value} {wr : World} {l : Array Bool} {X : Nat → Value} {w : World} (h : JC ar cx cy wr l X w) (hs : l.size = 8) (hu : l.getD 4 true = false) : JC ar cx cy wr (l.setIfInBounds 4 true) (updX X 4 (.pointer (some ⟨w.heap.size, 0, none⟩))) (w.alloc (.cells zS 47)) := by
  have hw := h.s
  have h0 := h
  replace h := h.world (w' := w.alloc (.cells zS 47)) ((Below.refl _ w).alloc (Nat.le_refl _) _)
  have hb := h.s.size
  refine ⟨fun hl => h.x0 (gne 0 (by omega) (by decide) hl), fun hl => h.x1 (gne 1 (by omega) (by decide) hl), fun hl => h.x2 (gne 2 (by omega) (by decide) hl), fun hl => h.x3 (gne 3 (by omega) (by decide) hl), fun _ => ⟨w.heap.size, rfl, ?_, by simp, fun _ => heap_alloc_new _ _, fun q => ?_⟩, fun hl => let ⟨b, e1, e2, e3, e4, e5⟩ := h.x5 (gne 5 (by omega) (by decide) hl); ⟨b, e1, e2, e3, fun q => e4 (gnf 7 (by omega) (by decide) q), fun q => e5 (gne 7 (by omega) (by decide) q)⟩, fun _ h5 => ?_, fun _ => gself (by omega), fun hl => gnt 5 (by omega) (h.d7 (gne 7 (by omega) (by decide) hl)), h.s⟩
  · exact hw.size
  · have := h.d6 (gne 6 (by omega) (by decide) q); rw [gfalse hu] at this; cases this
  · obtain ⟨b, e1, e2, e3, _⟩ := h0.x5 (gne 5 (by omega) (by decide) h5)
    show (.pointer (some ⟨w.heap.size, 0, none⟩) : Value) ≠ X 5
    rw [e1]
    intro q
    injection q with q
    injection q with q
    injection q with q
    omega
theorem JC.set5 {ar : Nat} {cx cy : Array Value} {wr : World} {l : Array Bool} {X : Nat → Value} {w : World} (h : JC ar cx cy wr l X w) (hs : l.size = 8) (hu : l.getD 5 true = false) : JC ar cx cy wr (l.setIfInBounds 5 true) (updX X 5 (.pointer (some ⟨w.heap.size, 0, none⟩))) (w.alloc (.cells zS 47)) := by
  have hw := h.s
  have h0 := h
  replace h := h.world (w' := w.alloc (.cells zS 47)) ((Below.refl _ w).alloc (Nat.le_refl _) _)
  refine ⟨fun hl => h.x0 (gne 0 (by omega) (by decide) hl), fun hl => h.x1 (gne 1 (by omega) (by decide) hl), fun hl => h.x2 (gne 2 (by omega) (by decide) hl), fun hl => h.x3 (gne 3 (by omega) (by decide) hl), fun hl => let ⟨b, e1, e2, e3, e4, e5⟩ := h.x4 (gne 4 (by omega) (by decide) hl); ⟨b, e1, e2, e3, fun q => e4 (gnf 6 (by omega) (by decide) q), fun q => e5 (gne 6 (by omega) (by decide) q)⟩, fun _ => ⟨w.heap.size, rfl, ?_, by simp, fun _ => heap_alloc_new _ _, fun q => ?_⟩, fun h4 _ => ?_, fun hl => gnt 4 (by omega) (h.d6 (gne 6 (by omega) (by decide) hl)), fun _ => gself (by omega), h.s⟩
  · exact hw.size
  · have := h.d7 (gne 7 (by omega) (by decide) q); rw [gfalse hu] at this; cases this
  · obtain ⟨b, e1, e2, e3, _⟩ := h0.x4 (gne 4 (by omega) (by decide) h4)
    show X 4 ≠ (.pointer (some ⟨w.heap.size, 0, none⟩) : Value)
    rw [e1]
    intro q
    injection q with q
    injection q with q
    injection q with q
    omega
theorem JC.set6 {ar : Nat} {cx cy : Array Value} {wr : World} {l : Array Bool} {X : Nat → Value} {w : World} (h : JC ar cx cy wr l X w) (hs : l.size = 8) (hk : l.getD 4 false = true) (ho : l.getD 5 false = true) (b : Nat) (e1 : X 4 = .pointer (some ⟨b, 0, none⟩)) (e2 : wr.heap.size ≤ b) (e3 : b < w.heap.size) (e4 : w.heap[b]? = some (.cells zS 47 (0, 0))) (v : Value) : JC ar cx cy wr (l.setIfInBounds 6 true) (updX X 6 v) (w.setRow b cx) := by
  have hne : ∀ b' : Nat, X 5 = .pointer (some ⟨b', 0, none⟩) → b' ≠ b := fun b' q e => by
    have := h.ne hk ho
    rw [e1, q, e] at this
    exact this rfl
  exact ⟨fun hl => h.x0 (gne 0 (by omega) (by decide) hl), fun hl => h.x1 (gne 1 (by omega) (by decide) hl), fun hl => h.x2 (gne 2 (by omega) (by decide) hl), fun hl => h.x3 (gne 3 (by omega) (by decide) hl), fun _ => ⟨b, e1, e2, by rw [size_setRow]; exact e3, fun q => (by rw [gself (by omega)] at q; cases q), fun _ => setRow_heap w b _ _ _ _ e4⟩, fun hl => let ⟨b', k1, k2, k3, k4, k5⟩ := h.x5 (gne 5 (by omega) (by decide) hl); ⟨b', k1, k2, by rw [size_setRow]; exact k3, fun q => (setRow_other w b b' _ (hne b' k1)).trans (k4 (gnf 7 (by omega) (by decide) q)), fun q => (setRow_other w b b' _ (hne b' k1)).trans (k5 (gne 7 (by omega) (by decide) q))⟩, fun h4 h5 => h.ne (gne 4 (by omega) (by decide) h4) (gne 5 (by omega) (by decide) h5), fun _ => gnt 4 (by omega) hk, fun hl => gnt 5 (by omega) (h.d7 (gne 7 (by omega) (by decide) hl)), ⟨h.s.os, h.s.tape, h.s.output, by rw [size_setRow]; exact h.s.size, fun k hk => (setRow_other w b k _ (by omega)).trans (h.s.block k hk)⟩⟩
theorem JC.set7 {ar : Nat} {cx cy : Array Value} {wr : World} {l : Array Bool} {X : Nat → Value} {w : World} (h : JC ar cx cy wr l X w) (hs : l.size = 8) (hk : l.getD 5 false = true) (ho : l.getD 4 false = true) (b : Nat) (e1 : X 5 = .pointer (some ⟨b, 0, none⟩)) (e2 : wr.heap.size ≤ b) (e3 : b < w.heap.size) (e4 : w.heap[b]? = some (.cells zS 47 (0, 0))) (v : Value) : JC ar cx cy wr (l.setIfInBounds 7 true) (updX X 7 v) (w.setRow b cy) := by
  have hne : ∀ b' : Nat, X 4 = .pointer (some ⟨b', 0, none⟩) → b' ≠ b := fun b' q e => by
    have := h.ne ho hk
    rw [e1, q, e] at this
    exact this rfl
  exact ⟨fun hl => h.x0 (gne 0 (by omega) (by decide) hl), fun hl => h.x1 (gne 1 (by omega) (by decide) hl), fun hl => h.x2 (gne 2 (by omega) (by decide) hl), fun hl => h.x3 (gne 3 (by omega) (by decide) hl), fun hl => let ⟨b', k1, k2, k3, k4, k5⟩ := h.x4 (gne 4 (by omega) (by decide) hl); ⟨b', k1, k2, by rw [size_setRow]; exact k3, fun q => (setRow_other w b b' _ (hne b' k1)).trans (k4 (gnf 6 (by omega) (by decide) q)), fun q => (setRow_other w b b' _ (hne b' k1)).trans (k5 (gne 6 (by omega) (by decide) q))⟩, fun _ => ⟨b, e1, e2, by rw [size_setRow]; exact e3, fun q => (by rw [gself (by omega)] at q; cases q), fun _ => setRow_heap w b _ _ _ _ e4⟩, fun h4 h5 => h.ne (gne 4 (by omega) (by decide) h4) (gne 5 (by omega) (by decide) h5), fun hl => gnt 4 (by omega) (h.d6 (gne 6 (by omega) (by decide) hl)), fun _ => gnt 5 (by omega) hk, ⟨h.s.os, h.s.tape, h.s.output, by rw [size_setRow]; exact h.s.size, fun k hk => (setRow_other w b k _ (by omega)).trans (h.s.block k hk)⟩⟩
attribute [local go_sem ↓] toLdSt toStSt in
set_option maxRecDepth 100000 in
set_option maxHeartbeats 1000000 in
theorem step12r (a0 : Act) {ar : Nat} {cx cy : Array Value} {wr : World} (Q : Exit → Act → World → Prop) (h6 : a0.tmps[6]? = some (.pointer (some ⟨ar, 0, none⟩))) (har : ar < wr.heap.size) (sx : cx.size = 6) (sy : cy.size = 6) (ox : cx.all (·.oneCell') = true) (oy : cy.all (·.oneCell') = true)
    (rx : wr.rangeAt ar 0 cx.toList) (ry : wr.rangeAt ar 6 cy.toList)
    (i : Nat) (o : Oper) (a : Act) (w : World) (listed : Array Bool) (X : Nat → Value) (ho : reg12r[i]? = some o) (hF : RFr reg12r a0 X listed a) (hJ : JC ar cx cy wr listed X w) (hls : listed.size = reg12r.size) (hun : listed.getD i true = false) (hdep : ∀ e ∈ o.after, Region.binds .any e = true → listed.getD e.on false = true) :
      if Region.wanted o (yielded reg12r a.tmps) = true then Oper.wp Tryd.prog o a w (fun a' w' => ∃ v, a' = a.put o.dst v ∧ JC ar cx cy wr (listed.setIfInBounds i true) (updX X i v) w') Q else JC ar cx cy wr (listed.setIfInBounds i true) (updX X i undef) w := by
  rw [size12r] at hls
  rw [if_pos (want_none (by
    match i, ho with
    | 0, ho => exact fact ho (by kernel_rfl)
    | 1, ho => exact fact ho (by kernel_rfl)
    | 2, ho => exact fact ho (by kernel_rfl)
    | 3, ho => exact fact ho (by kernel_rfl)
    | 4, ho => exact fact ho (by kernel_rfl)
    | 5, ho => exact fact ho (by kernel_rfl)
    | 6, ho => exact fact ho (by kernel_rfl)
    | 7, ho => exact fact ho (by kernel_rfl)
    | n + 8, ho =>
      exfalso
      have h1 : n + 8 < reg12r.size := (Array.getElem?_eq_some_iff.1 ho).1
      rw [size12r] at h1
      omega))]
  refine wp_of_K (fun K hK => ?_)
  match i, ho, hun, hK with
  | 0, ho, hun, hK =>
    have hop : o.op = .indexAddr 110 (.tmp 6) (.const (.int .i64 0)) := fact ho (by kernel_rfl)
    have hds : o.dst = some 43 := fact ho (by kernel_rfl)
    have t6 := tm_old hF 6 _ h6 (by kernel_rfl)
    rw [hds] at hK
    unfold Oper.wp
    simp [execOp, hop, hds, t6, go_sem]
    exact hK _ _ (hJ.set0 hls)
  | 1, ho, hun, hK =>
    have hop : o.op = .load 47 (.tmp 43) := fact ho (by kernel_rfl)
    have hds : o.dst = some 44 := fact ho (by kernel_rfl)
    have d0 := dep_of ho hdep 0 (by kernel_rfl)
    have t43 := tm_dep hF 0 43 (by kernel_rfl) d0
    rw [hJ.x0 d0] at t43
    have hL := ld_St w ar 0 cx sx (fun j v hv => (World.cell?_of_block (w := wr) (a := ⟨ar, 0 + j, none⟩) (hJ.s.block ar har)).trans (rx j v hv))
    rw [hds] at hK
    unfold Oper.wp
    simp [execOp, hop, hds, t43, go_sem, hL]
    exact hK _ _ (hJ.set1 hls)
  | 2, ho, hun, hK =>
    have hop : o.op = .indexAddr 110 (.tmp 6) (.const (.int .i64 1)) := fact ho (by kernel_rfl)
    have hds : o.dst = some 45 := fact ho (by kernel_rfl)
    have t6 := tm_old hF 6 _ h6 (by kernel_rfl)
    rw [hds] at hK
    unfold Oper.wp
    simp [execOp, hop, hds, t6, go_sem]
    exact hK _ _ (hJ.set2 hls)
  | 3, ho, hun, hK =>
    have hop : o.op = .load 47 (.tmp 45) := fact ho (by kernel_rfl)
    have hds : o.dst = some 46 := fact ho (by kernel_rfl)
    have d2 := dep_of ho hdep 2 (by kernel_rfl)
    have t45 := tm_dep hF 2 45 (by kernel_rfl) d2
    rw [hJ.x2 d2] at t45
    have hL := ld_St w ar 6 cy sy (fun j v hv => (World.cell?_of_block (w := wr) (a := ⟨ar, 6 + j, none⟩) (hJ.s.block ar har)).trans (ry j v hv))
    rw [hds] at hK
    unfold Oper.wp
    simp [execOp, hop, hds, t45, go_sem, hL]
    exact hK _ _ (hJ.set3 hls)
  | 4, ho, hun, hK =>
    have hop : o.op = .alloc 47 := fact ho (by kernel_rfl)
    have hds : o.dst = some 11 := fact ho (by kernel_rfl)
    rw [hds] at hK
    unfold Oper.wp
    simp [execOp, hop, hds, go_sem]
    exact hK _ _ (hJ.set4 hls hun)
  | 5, ho, hun, hK =>
    have hop : o.op = .alloc 47 := fact ho (by kernel_rfl)
    have hds : o.dst = some 12 := fact ho (by kernel_rfl)
    rw [hds] at hK
    unfold Oper.wp
    simp [execOp, hop, hds, go_sem]
    exact hK _ _ (hJ.set5 hls hun)
  | 6, ho, hun, hK =>
    have hop : o.op = .store 47 (.tmp 11) (.tmp 44) := fact ho (by kernel_rfl)
    have hds : o.dst = none := fact ho (by kernel_rfl)
    have d4 := dep_of ho hdep 4 (by kernel_rfl)
    have d5 := dep_of ho hdep 5 (by kernel_rfl)
    have d1 := dep_of ho hdep 1 (by kernel_rfl)
    have t11 := tm_dep hF 4 11 (by kernel_rfl) d4
    have t44 := tm_dep hF 1 44 (by kernel_rfl) d1
    obtain ⟨b, e1, e2, e3, e4, -⟩ := hJ.x4 d4
    rw [e1] at t11
    rw [hJ.x1 d1] at t44
    rw [hds] at hK
    have hz := e4 (gfalse hun)
    have hS := st_StR w b zS cx rfl sx ox hz
    unfold Oper.wp
    simp [execOp, hop, hds, t11, t44, go_sem, hS]
    exact hK undef _ (hJ.set6 hls d4 d5 b e1 e2 e3 hz _)
  | 7, ho, hun, hK =>
    have hop : o.op = .store 47 (.tmp 12) (.tmp 46) := fact ho (by kernel_rfl)
    have hds : o.dst = none := fact ho (by kernel_rfl)
    have d5 := dep_of ho hdep 5 (by kernel_rfl)
    have d4 := dep_of ho hdep 4 (by kernel_rfl)
    have d3 := dep_of ho hdep 3 (by kernel_rfl)
    have t12 := tm_dep hF 5 12 (by kernel_rfl) d5
    have t46 := tm_dep hF 3 46 (by kernel_rfl) d3
    obtain ⟨b, e1, e2, e3, e4, -⟩ := hJ.x5 d5
    rw [e1] at t12
    rw [hJ.x3 d3] at t46
    rw [hds] at hK
    have hz := e4 (gfalse hun)
    have hS := st_StR w b zS cy rfl sy oy hz
    unfold Oper.wp
    simp [execOp, hop, hds, t12, t46, go_sem, hS]
    exact hK undef _ (hJ.set7 hls d5 d4 b e1 e2 e3 hz _)
  | n + 8, ho, hun, hK =>
    exfalso
    have h1 : n + 8 < reg12r.size := (Array.getElem?_eq_some_iff.1 ho).1
    rw [size12r] at h1
    omega
end Go.Proofs.YtfimaflglnemdaaDoor

/- JournalReplays: the answer, as mathematics. -/
namespace Go.Proofs.YtfimaflglnemdaaDoor
open Go.RowKit
open JM
def Inv (s : St) : Prop := (s.headed = true → 1 ≤ s.gen) ∧ (s.live = true → s.headed = true)
theorem inv_step {l : List Nat} {s s' : St} {pos p' : Nat} (h : s.step crcN l pos = .got (s', p')) (hi : Inv s) : Inv s' := by
  cases hh : s.headed with
  | false =>
    rw [step_head hh] at h
    cases hR : recd crcN s.ok (l.drop pos) with
    | bad => rw [hR] at h; cases h
    | torn => rw [hR] at h; cases h
    | got r =>
      rw [hR] at h
      dsimp only at h
      split at h
      · injection h with h
        injection h with h1 h2
        subst h1
        obtain ⟨-, -, -, -, -, q6⟩ := recd_got hR
        simp only [St.ok, hh, if_true, decide_eq_true_eq] at q6
        exact ⟨fun _ => q6.2.1, fun _ => rfl⟩
      · cases h
  | true =>
    cases hl : s.live with
    | false =>
      rw [step_base hh hl] at h
      cases hR : recd crcN s.ok (l.drop pos) with
      | bad => rw [hR] at h; cases h
      | torn => rw [hR] at h; cases h
      | got r =>
        rw [hR] at h
        dsimp only at h
        injection h with h
        injection h with h1 h2
        subst h1
        split
        · exact ⟨hi.1, fun _ => hh⟩
        · exact ⟨hi.1, fun _ => hh⟩
    | true =>
      rw [step_batch hh hl] at h
      cases hR : recd crcN s.ok (l.drop pos) with
      | bad => rw [hR] at h; cases h
      | torn => rw [hR] at h; cases h
      | got r =>
        rw [hR] at h
        dsimp only at h
        split at h
        · injection h with h
          injection h with h1 h2
          subst h1
          exact ⟨hi.1, fun _ => hh⟩
        · split at h
          · injection h with h
            injection h with h1 h2
            subst h1
            exact ⟨hi.1, fun _ => hh⟩
          · cases h
theorem inv_run (l : List Nat) : ∀ (n : Nat) (s : St) (pos : Nat), Inv s → Inv (run crcN l n s pos).1
  | 0, s, _, h => h
  | n + 1, s, pos, h => by
    simp only [run]
    split
    · exact h
    · split
      · exact h
      · exact h
      · rename_i s' pos' hs
        exact inv_run l n s' pos' (inv_step hs h)
theorem inv_file (l : List Nat) : Inv (file crcN l).1 := inv_run l _ _ _ ⟨fun h => (by cases h), fun h => (by cases h)⟩
theorem file_gen {l : List Nat} (h : (file crcN l).1.live = true) : 1 ≤ (file crcN l).1.gen := (inv_file l).1 ((inv_file l).2 h)
def errOf (p : Nat) : Nat := if p = 0 then 110 else 112
/-- What Replay answers. -/
inductive Ans
  | err (c f p : Nat)
  | none
  | story (f : Nat) (s : St)
def pick (s t : St) : Ans := if s.live = true ∧ t.live = true ∧ s.gen = t.gen then .err 112 1 0 else if t.live = true ∧ (s.live = false ∨ s.gen < t.gen) then .story 1 t else if s.live = true then .story 0 s else .none
def rep (l0 l1 : List Nat) : Ans :=
  if 67108864 < l0.length then .err 1 0 0
  else match (file crcN l0).2 with
  | some p => .err (errOf p) 0 p
  | Option.none => if 67108864 < l1.length then .err 1 1 0
    else match (file crcN l1).2 with
    | some p => .err (errOf p) 1 p
    | Option.none => pick (file crcN l0).1 (file crcN l1).1
def AnsP (W : World) (X : Ans) (e : Ending) (w' : World) : Prop :=
  Below W.heap.size W w' ∧ ∃ (t0 t1 t2 t3 t4 t5 : Value) (c f p : Nat), e = .returned (.tuple #[.agg #[t0, t1, t2, t3, t4, t5], .int .i64 (c : Int), .int .i64 (f : Int), .int .i64 (p : Int)]) ∧
  match X with
  | .err c' f' p' => #[t0, t1, t2, t3, t4, t5] = zS ∧ c = c' ∧ f = f' ∧ p = p'
  | .none => #[t0, t1, t2, t3, t4, t5] = #[.int .i64 (-1), .int .i64 0, .int .i64 0, .int .i64 0, .slice Option.none 0 0, .slice Option.none 0 0] ∧ c = 0 ∧ f = 0 ∧ p = 0
  | .story i s => (t0 = .int .i64 (i : Int) ∧ t1 = .int .i64 (s.good : Int) ∧ t2 = .int .i64 (s.gen : Int) ∧ t3 = .int .i64 (s.first : Int) ∧ Ll W.heap.size w' t4 s.base ∧ Lb W.heap.size w' t5 s.batches) ∧ c = 0 ∧ f = 0 ∧ p = 0
set_option maxRecDepth 100000 in
theorem spoiltErrno_any (n : Nat) (W : World) : Calls Tryd.prog 57 #[.int .i64 (n : Int)] W fun e w' => e = .returned (.int .i64 (errOf n : Int)) ∧ w' = W := by
  unfold errOf
  by_cases h : n = 0
  · subst h
    go_enter Tryd.func57, Tryd.ntmps57
    go_wp2
    go_ret
    exact ⟨rfl, rfl⟩
  · rw [if_neg h]
    have h2 : ((n : Int) == 0) = false := by rw [show ((0 : Int)) = ((0 : Nat) : Int) from rfl, beq_int]; simp [h]
    go_enter Tryd.func57, Tryd.ntmps57
    go_wp2
    all_goals go_ret
    all_goals first | exact ⟨rfl, rfl⟩ | (exfalso; simp_all)
end Go.Proofs.YtfimaflglnemdaaDoor
