/- JournalReplays: a batch, the region that asks for a record. -/
import Derived.Test.YtfimaflglnemdaaDoorJqL
import Derived.Test.YtfimaflglnemdaaDoorJrFx
namespace Go.Proofs.YtfimaflglnemdaaDoor
open Go.RowKit
open JM
theorem wp_of_K {P : Program} {o : Oper} {a : Act} {w : World} {Q : Exit → Act → World → Prop} {Z : Value → World → Prop} (h : ∀ K : Act → World → Prop, (∀ v w', Z v w' → K (a.put o.dst v) w') → Oper.wp P o a w K Q) : Oper.wp P o a w (fun a' w' => ∃ v, a' = a.put o.dst v ∧ Z v w') Q := h _ (fun v _ hz => ⟨v, rfl, hz⟩)
theorem gset (l : Array Bool) (i j : Nat) (h : i < l.size) : (l.setIfInBounds i true).getD j false = (if j = i then true else l.getD j false) := by
  by_cases hj : j = i
  · subst hj; rw [if_pos rfl]; simp [Array.getD, h]
  · rw [if_neg hj]
    by_cases hl : j < l.size
    · simp only [Array.getD, Array.size_setIfInBounds, hl, dif_pos]
      exact Array.getElem_setIfInBounds_ne hl (Ne.symm hj)
    · simp [Array.getD, hl]
theorem gne {l : Array Bool} {i : Nat} (j : Nat) (h : i < l.size) (hj : j ≠ i) (hl : (l.setIfInBounds i true).getD j false = true) : l.getD j false = true := by rwa [gset _ _ _ h, if_neg hj] at hl
theorem gnf {l : Array Bool} {i : Nat} (j : Nat) (h : i < l.size) (hj : j ≠ i) (hl : (l.setIfInBounds i true).getD j false = false) : l.getD j false = false := by rwa [gset _ _ _ h, if_neg hj] at hl
theorem gnt {l : Array Bool} {i : Nat} (j : Nat) (h : i < l.size) (hl : l.getD j false = true) : (l.setIfInBounds i true).getD j false = true := by (rw [gset _ _ _ h]; split; rfl; exact hl)
theorem gself {l : Array Bool} {i : Nat} (h : i < l.size) : (l.setIfInBounds i true).getD i false = true := by rw [gset _ _ _ h, if_pos rfl]
theorem gfalse {l : Array Bool} {i : Nat} (h : l.getD i true = false) : l.getD i false = false := by
  by_cases hi : i < l.size
  · simp only [Array.getD, hi, dif_pos] at h ⊢; exact h
  · simp [Array.getD, hi] at h
noncomputable def reg3b : Array Oper := ((Tryd.f76.body.bind (findR 3)).getD #[])
theorem okR3b : okR reg3b 40 = true := by kernel_rfl
theorem size3b : reg3b.size = 9 := by kernel_rfl
structure JB (g n : Nat) (ov : Value) (u1 u2 : Ru) (Cp : Array Value → Prop) (wr : World) (Rp : World → Prop) (l : Array Bool) (X : Nat → Value) (w : World) : Prop where
  x0 : l.getD 0 false = true → X 0 = .pointer (some ⟨g, 0, none⟩)
  x1 : l.getD 1 false = true → X 1 = ov
  x2 : l.getD 2 false = true → X 2 = .int .i64 (n : Int)
  x3 : l.getD 3 false = true → X 3 = u1.val
  x4 : l.getD 4 false = true → X 4 = u2.val
  x5 : l.getD 5 false = true → ∃ b : Nat, X 5 = .slice (some ⟨b, 0, none⟩) 2 2 ∧ wr.heap.size ≤ b ∧ (l.getD 6 false = false → w.heap[b]? = some (.cells (u1.arr ++ u2.arr) 145 (0, 0)))
  x6 : l.getD 6 false = true → ∃ c, X 6 = .agg c ∧ Cp c
  x7 : l.getD 7 false = true → ∃ b : Nat, X 7 = .pointer (some ⟨b, 0, none⟩) ∧ wr.heap.size ≤ b ∧ (l.getD 8 false = false → w.heap[b]? = some (.cells zRc 142 (0, 0))) ∧ (l.getD 8 false = true → ∃ c, w.heap[b]? = some (.cells c 142 (0, 0)) ∧ Cp c)
  dp : l.getD 8 false = true → l.getD 7 false = true
  s1 : l.getD 6 false = false → Below wr.heap.size wr w
  s2 : l.getD 6 false = true → But g wr w ∧ Rp w
  sz : wr.heap.size ≤ w.heap.size
/-- Memory that is made. -/
theorem JB.world {g n : Nat} {ov : Value} {u1 u2 : Ru} {Cp : Array Value → Prop} {wr : World} {Rp : World → Prop} {l : Array Bool} {X : Nat → Value} {w w' : World} (h : JB g n ov u1 u2 Cp wr Rp l X w) (hR : ∀ x y, Rp x → Below x.heap.size x y → Rp y) (hb : Below w.heap.size w w') : JB g n ov u1 u2 Cp wr Rp l X w' := by
  have hk : ∀ (k : Nat) o, w.heap[k]? = some o → w'.heap[k]? = some o := fun k o hk => (hb.block k (Array.getElem?_eq_some_iff.1 hk).1).trans hk
  refine ⟨h.x0, h.x1, h.x2, h.x3, h.x4, fun hl => ?_, h.x6, fun hl => ?_, h.dp, fun hl => (h.s1 hl).trans (hb.mono h.sz), fun hl => ⟨(h.s2 hl).1.below hb, hR _ _ (h.s2 hl).2 hb⟩, Nat.le_trans h.sz hb.size⟩
  · obtain ⟨b, e, h1, h2⟩ := h.x5 hl
    exact ⟨b, e, h1, fun h3 => hk _ _ (h2 h3)⟩
  · obtain ⟨b, e, h1, h2, h3⟩ := h.x7 hl
    exact ⟨b, e, h1, fun h4 => hk _ _ (h2 h4), fun h4 => let ⟨c, h5, h6⟩ := h3 h4; ⟨c, hk _ _ h5, h6⟩⟩
theorem JB.set0 {g n : Nat} {ov : Value} {u1 u2 : Ru} {Cp : Array Value → Prop} {wr : World} {Rp : World → Prop} {l : Array Bool} {X : Nat → Value} {w : World} (h : JB g n ov u1 u2 Cp wr Rp l X w) (hs : l.size = 9) : JB g n ov u1 u2 Cp wr Rp (l.setIfInBounds 0 true) (updX X 0 (.pointer (some ⟨g, 0, none⟩))) w :=
  ⟨fun _ => rfl,
    fun hl => h.x1 (gne 1 (by omega) (by decide) hl),
    fun hl => h.x2 (gne 2 (by omega) (by decide) hl),
    fun hl => h.x3 (gne 3 (by omega) (by decide) hl),
    fun hl => h.x4 (gne 4 (by omega) (by decide) hl),
    fun hl => let ⟨b, e1, e2, e3⟩ := h.x5 (gne 5 (by omega) (by decide) hl); ⟨b, e1, e2, fun h6 => e3 (gnf 6 (by omega) (by decide) h6)⟩,
    fun hl => h.x6 (gne 6 (by omega) (by decide) hl),
    fun hl => let ⟨b, e1, e2, e3, e4⟩ := h.x7 (gne 7 (by omega) (by decide) hl); ⟨b, e1, e2, fun h8 => e3 (gnf 8 (by omega) (by decide) h8), fun h8 => e4 (gne 8 (by omega) (by decide) h8)⟩,
    fun hl => gnt 7 (by omega) (h.dp (gne 8 (by omega) (by decide) hl)),
    fun hl => h.s1 (gnf 6 (by omega) (by decide) hl),
    fun hl => h.s2 (gne 6 (by omega) (by decide) hl),
    h.sz⟩
theorem JB.set1 {g n : Nat} {ov : Value} {u1 u2 : Ru} {Cp : Array Value → Prop} {wr : World} {Rp : World → Prop} {l : Array Bool} {X : Nat → Value} {w : World} (h : JB g n ov u1 u2 Cp wr Rp l X w) (hs : l.size = 9) : JB g n ov u1 u2 Cp wr Rp (l.setIfInBounds 1 true) (updX X 1 (ov)) w :=
  ⟨fun hl => h.x0 (gne 0 (by omega) (by decide) hl),
    fun _ => rfl,
    fun hl => h.x2 (gne 2 (by omega) (by decide) hl),
    fun hl => h.x3 (gne 3 (by omega) (by decide) hl),
    fun hl => h.x4 (gne 4 (by omega) (by decide) hl),
    fun hl => let ⟨b, e1, e2, e3⟩ := h.x5 (gne 5 (by omega) (by decide) hl); ⟨b, e1, e2, fun h6 => e3 (gnf 6 (by omega) (by decide) h6)⟩,
    fun hl => h.x6 (gne 6 (by omega) (by decide) hl),
    fun hl => let ⟨b, e1, e2, e3, e4⟩ := h.x7 (gne 7 (by omega) (by decide) hl); ⟨b, e1, e2, fun h8 => e3 (gnf 8 (by omega) (by decide) h8), fun h8 => e4 (gne 8 (by omega) (by decide) h8)⟩,
    fun hl => gnt 7 (by omega) (h.dp (gne 8 (by omega) (by decide) hl)),
    fun hl => h.s1 (gnf 6 (by omega) (by decide) hl),
    fun hl => h.s2 (gne 6 (by omega) (by decide) hl),
    h.sz⟩
theorem JB.set2 {g n : Nat} {ov : Value} {u1 u2 : Ru} {Cp : Array Value → Prop} {wr : World} {Rp : World → Prop} {l : Array Bool} {X : Nat → Value} {w : World} (h : JB g n ov u1 u2 Cp wr Rp l X w) (hs : l.size = 9) : JB g n ov u1 u2 Cp wr Rp (l.setIfInBounds 2 true) (updX X 2 (.int .i64 (n : Int))) w :=
  ⟨fun hl => h.x0 (gne 0 (by omega) (by decide) hl),
    fun hl => h.x1 (gne 1 (by omega) (by decide) hl),
    fun _ => rfl,
    fun hl => h.x3 (gne 3 (by omega) (by decide) hl),
    fun hl => h.x4 (gne 4 (by omega) (by decide) hl),
    fun hl => let ⟨b, e1, e2, e3⟩ := h.x5 (gne 5 (by omega) (by decide) hl); ⟨b, e1, e2, fun h6 => e3 (gnf 6 (by omega) (by decide) h6)⟩,
    fun hl => h.x6 (gne 6 (by omega) (by decide) hl),
    fun hl => let ⟨b, e1, e2, e3, e4⟩ := h.x7 (gne 7 (by omega) (by decide) hl); ⟨b, e1, e2, fun h8 => e3 (gnf 8 (by omega) (by decide) h8), fun h8 => e4 (gne 8 (by omega) (by decide) h8)⟩,
    fun hl => gnt 7 (by omega) (h.dp (gne 8 (by omega) (by decide) hl)),
    fun hl => h.s1 (gnf 6 (by omega) (by decide) hl),
    fun hl => h.s2 (gne 6 (by omega) (by decide) hl),
    h.sz⟩
theorem JB.set3 {g n : Nat} {ov : Value} {u1 u2 : Ru} {Cp : Array Value → Prop} {wr : World} {Rp : World → Prop} {l : Array Bool} {X : Nat → Value} {w : World} (h : JB g n ov u1 u2 Cp wr Rp l X w) (hs : l.size = 9) : JB g n ov u1 u2 Cp wr Rp (l.setIfInBounds 3 true) (updX X 3 (u1.val)) w :=
  ⟨fun hl => h.x0 (gne 0 (by omega) (by decide) hl),
    fun hl => h.x1 (gne 1 (by omega) (by decide) hl),
    fun hl => h.x2 (gne 2 (by omega) (by decide) hl),
    fun _ => rfl,
    fun hl => h.x4 (gne 4 (by omega) (by decide) hl),
    fun hl => let ⟨b, e1, e2, e3⟩ := h.x5 (gne 5 (by omega) (by decide) hl); ⟨b, e1, e2, fun h6 => e3 (gnf 6 (by omega) (by decide) h6)⟩,
    fun hl => h.x6 (gne 6 (by omega) (by decide) hl),
    fun hl => let ⟨b, e1, e2, e3, e4⟩ := h.x7 (gne 7 (by omega) (by decide) hl); ⟨b, e1, e2, fun h8 => e3 (gnf 8 (by omega) (by decide) h8), fun h8 => e4 (gne 8 (by omega) (by decide) h8)⟩,
    fun hl => gnt 7 (by omega) (h.dp (gne 8 (by omega) (by decide) hl)),
    fun hl => h.s1 (gnf 6 (by omega) (by decide) hl),
    fun hl => h.s2 (gne 6 (by omega) (by decide) hl),
    h.sz⟩
theorem JB.set4 {g n : Nat} {ov : Value} {u1 u2 : Ru} {Cp : Array Value → Prop} {wr : World} {Rp : World → Prop} {l : Array Bool} {X : Nat → Value} {w : World} (h : JB g n ov u1 u2 Cp wr Rp l X w) (hs : l.size = 9) : JB g n ov u1 u2 Cp wr Rp (l.setIfInBounds 4 true) (updX X 4 (u2.val)) w :=
  ⟨fun hl => h.x0 (gne 0 (by omega) (by decide) hl),
    fun hl => h.x1 (gne 1 (by omega) (by decide) hl),
    fun hl => h.x2 (gne 2 (by omega) (by decide) hl),
    fun hl => h.x3 (gne 3 (by omega) (by decide) hl),
    fun _ => rfl,
    fun hl => let ⟨b, e1, e2, e3⟩ := h.x5 (gne 5 (by omega) (by decide) hl); ⟨b, e1, e2, fun h6 => e3 (gnf 6 (by omega) (by decide) h6)⟩,
    fun hl => h.x6 (gne 6 (by omega) (by decide) hl),
    fun hl => let ⟨b, e1, e2, e3, e4⟩ := h.x7 (gne 7 (by omega) (by decide) hl); ⟨b, e1, e2, fun h8 => e3 (gnf 8 (by omega) (by decide) h8), fun h8 => e4 (gne 8 (by omega) (by decide) h8)⟩,
    fun hl => gnt 7 (by omega) (h.dp (gne 8 (by omega) (by decide) hl)),
    fun hl => h.s1 (gnf 6 (by omega) (by decide) hl),
    fun hl => h.s2 (gne 6 (by omega) (by decide) hl),
    h.sz⟩
theorem JB.set5 {g n : Nat} {ov : Value} {u1 u2 : Ru} {Cp : Array Value → Prop} {wr : World} {Rp : World → Prop} {l : Array Bool} {X : Nat → Value} {w : World} (h : JB g n ov u1 u2 Cp wr Rp l X w) (hs : l.size = 9) (b : Nat) (hb : wr.heap.size ≤ b) (hc : w.heap[b]? = some (.cells (u1.arr ++ u2.arr) 145 (0, 0))) : JB g n ov u1 u2 Cp wr Rp (l.setIfInBounds 5 true) (updX X 5 (.slice (some ⟨b, 0, none⟩) 2 2)) w :=
  ⟨fun hl => h.x0 (gne 0 (by omega) (by decide) hl),
    fun hl => h.x1 (gne 1 (by omega) (by decide) hl),
    fun hl => h.x2 (gne 2 (by omega) (by decide) hl),
    fun hl => h.x3 (gne 3 (by omega) (by decide) hl),
    fun hl => h.x4 (gne 4 (by omega) (by decide) hl),
    fun _ => ⟨b, rfl, hb, fun _ => hc⟩,
    fun hl => h.x6 (gne 6 (by omega) (by decide) hl),
    fun hl => let ⟨b, e1, e2, e3, e4⟩ := h.x7 (gne 7 (by omega) (by decide) hl); ⟨b, e1, e2, fun h8 => e3 (gnf 8 (by omega) (by decide) h8), fun h8 => e4 (gne 8 (by omega) (by decide) h8)⟩,
    fun hl => gnt 7 (by omega) (h.dp (gne 8 (by omega) (by decide) hl)),
    fun hl => h.s1 (gnf 6 (by omega) (by decide) hl),
    fun hl => h.s2 (gne 6 (by omega) (by decide) hl),
    h.sz⟩
theorem JB.set7 {g n : Nat} {ov : Value} {u1 u2 : Ru} {Cp : Array Value → Prop} {wr : World} {Rp : World → Prop} {l : Array Bool} {X : Nat → Value} {w : World} (h : JB g n ov u1 u2 Cp wr Rp l X w) (hs : l.size = 9) (hu : l.getD 7 true = false) (b : Nat) (hb : wr.heap.size ≤ b) (hc : w.heap[b]? = some (.cells zRc 142 (0, 0))) : JB g n ov u1 u2 Cp wr Rp (l.setIfInBounds 7 true) (updX X 7 (.pointer (some ⟨b, 0, none⟩))) w :=
  ⟨fun hl => h.x0 (gne 0 (by omega) (by decide) hl),
    fun hl => h.x1 (gne 1 (by omega) (by decide) hl),
    fun hl => h.x2 (gne 2 (by omega) (by decide) hl),
    fun hl => h.x3 (gne 3 (by omega) (by decide) hl),
    fun hl => h.x4 (gne 4 (by omega) (by decide) hl),
    fun hl => let ⟨b, e1, e2, e3⟩ := h.x5 (gne 5 (by omega) (by decide) hl); ⟨b, e1, e2, fun h6 => e3 (gnf 6 (by omega) (by decide) h6)⟩,
    fun hl => h.x6 (gne 6 (by omega) (by decide) hl),
    fun _ => ⟨b, rfl, hb, fun _ => hc, fun h8 => (by have := h.dp (gne 8 (by omega) (by decide) h8); rw [gfalse hu] at this; cases this)⟩,
    fun _ => gself (by omega),
    fun hl => h.s1 (gnf 6 (by omega) (by decide) hl),
    fun hl => h.s2 (gne 6 (by omega) (by decide) hl),
    h.sz⟩
theorem JB.set6 {g n : Nat} {ov : Value} {u1 u2 : Ru} {Cp : Array Value → Prop} {wr : World} {Rp : World → Prop} {l : Array Bool} {X : Nat → Value} {w w' : World} (h : JB g n ov u1 u2 Cp wr Rp l X w) (hs : l.size = 9) (hu : l.getD 6 true = false) (hg : g < wr.heap.size) (hb : But g w w') (hr : Rp w') (c : Array Value) (hc : Cp c) : JB g n ov u1 u2 Cp wr Rp (l.setIfInBounds 6 true) (updX X 6 (.agg c)) w' :=
  ⟨fun hl => h.x0 (gne 0 (by omega) (by decide) hl),
    fun hl => h.x1 (gne 1 (by omega) (by decide) hl),
    fun hl => h.x2 (gne 2 (by omega) (by decide) hl),
    fun hl => h.x3 (gne 3 (by omega) (by decide) hl),
    fun hl => h.x4 (gne 4 (by omega) (by decide) hl),
    fun hl => let ⟨b, e1, e2, _⟩ := h.x5 (gne 5 (by omega) (by decide) hl); ⟨b, e1, e2, fun h6 => (by rw [gself (by omega)] at h6; cases h6)⟩,
    fun _ => ⟨c, rfl, hc⟩,
    fun hl => let ⟨b, e1, e2, e3, e4⟩ := h.x7 (gne 7 (by omega) (by decide) hl); ⟨b, e1, e2, fun h8 => (by have := e3 (gnf 8 (by omega) (by decide) h8); exact (hb.block b (Array.getElem?_eq_some_iff.1 this).1 (by omega)).trans this), fun h8 => (by obtain ⟨c', k1, k2⟩ := e4 (gne 8 (by omega) (by decide) h8); exact ⟨c', (hb.block b (Array.getElem?_eq_some_iff.1 k1).1 (by omega)).trans k1, k2⟩)⟩,
    fun hl => gnt 7 (by omega) (h.dp (gne 8 (by omega) (by decide) hl)),
    fun hl => (by rw [gself (by omega)] at hl; cases hl),
    fun _ => ⟨⟨hb.os.trans (h.s1 (gfalse hu)).os, hb.tape.trans (h.s1 (gfalse hu)).tape, hb.output.trans (h.s1 (gfalse hu)).output, Nat.le_trans h.sz hb.size, fun k hk hn => (hb.block k (Nat.lt_of_lt_of_le hk h.sz) hn).trans ((h.s1 (gfalse hu)).block k hk)⟩, hr⟩,
    Nat.le_trans h.sz hb.size⟩
theorem JB.set8 {g n : Nat} {ov : Value} {u1 u2 : Ru} {Cp : Array Value → Prop} {wr : World} {Rp : World → Prop} {l : Array Bool} {X : Nat → Value} {w : World} (h : JB g n ov u1 u2 Cp wr Rp l X w) (hs : l.size = 9) (hg : g < wr.heap.size) (h6 : l.getD 6 false = true) (h7 : l.getD 7 false = true) (b : Nat) (e : X 7 = .pointer (some ⟨b, 0, none⟩)) (hB : wr.heap.size ≤ b) (C c : Array Value) (hb : w.heap[b]? = some (.cells C 142 (0, 0))) (hc : Cp c) (hR : ∀ x, Rp w → x.heap[g]? = w.heap[g]? → Rp x) (v : Value) : JB g n ov u1 u2 Cp wr Rp (l.setIfInBounds 8 true) (updX X 8 v) (w.setRow b c) :=
  ⟨fun hl => h.x0 (gne 0 (by omega) (by decide) hl),
    fun hl => h.x1 (gne 1 (by omega) (by decide) hl),
    fun hl => h.x2 (gne 2 (by omega) (by decide) hl),
    fun hl => h.x3 (gne 3 (by omega) (by decide) hl),
    fun hl => h.x4 (gne 4 (by omega) (by decide) hl),
    fun hl => let ⟨b, e1, e2, _⟩ := h.x5 (gne 5 (by omega) (by decide) hl); ⟨b, e1, e2, fun k6 => (by rw [gnf 6 (by omega) (by decide) k6] at h6; cases h6)⟩,
    fun hl => h.x6 (gne 6 (by omega) (by decide) hl),
    fun _ => ⟨b, e, hB, fun k8 => (by rw [gself (by omega)] at k8; cases k8), fun _ => ⟨c, setRow_heap w b _ c _ _ hb, hc⟩⟩,
    fun _ => gnt 7 (by omega) h7,
    fun hl => (by rw [gnf 6 (by omega) (by decide) hl] at h6; cases h6),
    fun _ => ⟨⟨(h.s2 h6).1.os, (h.s2 h6).1.tape, (h.s2 h6).1.output, (by rw [size_setRow]; exact h.sz), fun k hk hn => (setRow_other w b k c (by omega)).trans ((h.s2 h6).1.block k hk hn)⟩, hR _ (h.s2 h6).2 (setRow_other w b g c (by omega))⟩,
    (by rw [size_setRow]; exact h.sz)⟩
attribute [local go_sem ↓] toLdU toStRc in
set_option maxRecDepth 100000 in
set_option maxHeartbeats 1000000 in
theorem step3b (a0 : Act) {g n : Nat} {oa : Option Addr} {ca rb k1 : Nat} {u2 : Ru} {Cp : Array Value → Prop} {wr : World} {Rp : World → Prop} (Q : Exit → Act → World → Prop) (h0 : a0.tmps[0]? = some (.pointer (some ⟨g, 0, none⟩))) (h5 : a0.tmps[5]? = some (.pointer (some ⟨rb, 0, none⟩))) (h6 : a0.tmps[6]? = some (.slice oa n ca))
    (hg : g < wr.heap.size) (hgr : g ≠ rb) (hrb : wr.heap[rb]? = some (.cells u2.arr 145 (0, 0))) (hR : ∀ x y, Rp x → Below x.heap.size x y → Rp y) (hR2 : ∀ x y, Rp x → y.heap[g]? = x.heap[g]? → Rp y) (hn : n ≤ 1000000) (hk1 : k1 = 4)
    (hC : ∀ c, Cp c → c.size = 4 ∧ c.all (·.oneCell') = true)
    (hc6 : ∀ W b, Below wr.heap.size wr W → wr.heap.size ≤ b → W.heap[b]? = some (.cells (Ru.arr ⟨k1, n, min n 8191, 0, 2097152⟩ ++ u2.arr) 145 (0, 0)) → Calls Tryd.prog 77 #[.pointer (some ⟨g, 0, none⟩), .slice (some ⟨b, 0, none⟩) 2 2] W fun e w' => (∃ c, e = .returned (.agg c) ∧ Cp c ∧ But g W w' ∧ Rp w') ∨ ∃ ch, e = .panicked ch ∧ ∀ a, a.defers = a0.defers → Q (.panic ch) a w')
    (i : Nat) (o : Oper) (a : Act) (w : World) (listed : Array Bool) (X : Nat → Value) (ho : reg3b[i]? = some o) (hF : RFr reg3b a0 X listed a) (hJ : JB g n (.slice oa n ca) ⟨k1, n, min n 8191, 0, 2097152⟩ u2 Cp wr Rp listed X w) (hls : listed.size = reg3b.size) (hun : listed.getD i true = false) (hdep : ∀ e ∈ o.after, Region.binds .any e = true → listed.getD e.on false = true) :
      if Region.wanted o (yielded reg3b a.tmps) = true then Oper.wp Tryd.prog o a w (fun a' w' => ∃ v, a' = a.put o.dst v ∧ JB g n (.slice oa n ca) ⟨k1, n, min n 8191, 0, 2097152⟩ u2 Cp wr Rp (listed.setIfInBounds i true) (updX X i v) w') Q else JB g n (.slice oa n ca) ⟨k1, n, min n 8191, 0, 2097152⟩ u2 Cp wr Rp (listed.setIfInBounds i true) (updX X i undef) w := by
  rw [size3b] at hls
  subst hk1
  rw [if_pos (want_none (by
    match i, ho with
    | 0, ho => exact fact ho (by kernel_rfl)
    | 1, ho => exact fact ho (by kernel_rfl)
    | 2, ho => exact fact ho (by kernel_rfl)
    | 3, ho => exact fact ho (by kernel_rfl)
    | 4, ho => exact fact ho (by kernel_rfl)
    | 5, ho => exact fact ho (by kernel_rfl)
    | 6, ho => exact fact ho (by kernel_rfl)
    | 7, ho => exact fact ho (by kernel_rfl)
    | 8, ho => exact fact ho (by kernel_rfl)
    | n + 9, ho =>
      exfalso
      have h1 : n + 9 < reg3b.size := (Array.getElem?_eq_some_iff.1 ho).1
      rw [size3b] at h1
      omega))]
  refine wp_of_K (fun K hK => ?_)
  match i, ho, hun, hK with
  | 0, ho, hun, hK =>
    have hop : o.op = .move (.tmp 0) := fact ho (by kernel_rfl)
    have hds : o.dst = some 14 := fact ho (by kernel_rfl)
    have t0 := tm_old hF 0 _ h0 (by kernel_rfl)
    rw [hds] at hK
    unfold Oper.wp
    simp [execOp, hop, hds, t0, go_sem]
    exact hK _ _ (hJ.set0 hls)
  | 1, ho, hun, hK =>
    have hop : o.op = .move (.tmp 6) := fact ho (by kernel_rfl)
    have hds : o.dst = some 15 := fact ho (by kernel_rfl)
    have t6 := tm_old hF 6 _ h6 (by kernel_rfl)
    rw [hds] at hK
    unfold Oper.wp
    simp [execOp, hop, hds, t6, go_sem]
    exact hK _ _ (hJ.set1 hls)
  | 2, ho, hun, hK =>
    have hop : o.op = .call { callee := .builtin .len, args := #[.tmp 15], argTypes := #[27] } := fact ho (by kernel_rfl)
    have hds : o.dst = some 16 := fact ho (by kernel_rfl)
    have d1 := dep_of ho hdep 1 (by kernel_rfl)
    have t15 := tm_dep hF 1 15 (by kernel_rfl) d1
    rw [hJ.x1 d1] at t15
    rw [hds] at hK
    unfold Oper.wp
    simp [execOp, hop, hds, t15, go_sem]
    exact hK _ _ (hJ.set2 hls)
  | 3, ho, hun, hK =>
    have hop : o.op = .call { callee := .value (.func 80), args := #[.const (.int .u8 4), .tmp 16], argTypes := #[5, 3] } := fact ho (by kernel_rfl)
    have hds : o.dst = some 17 := fact ho (by kernel_rfl)
    have d2 := dep_of ho hdep 2 (by kernel_rfl)
    have t16 := tm_dep hF 2 16 (by kernel_rfl) d2
    rw [hJ.x2 d2] at t16
    rw [hds] at hK
    unfold Oper.wp
    simp [execOp, hop, hds, t16, go_sem]
    refine (bodyRule_any 4 n hn w).mono ?_
    rintro e w' ⟨rfl, hb, -⟩
    exact hK _ _ ((hJ.world hR hb).set3 hls)
  | 4, ho, hun, hK =>
    have hop : o.op = .load 145 (.tmp 5) := fact ho (by kernel_rfl)
    have hds : o.dst = some 18 := fact ho (by kernel_rfl)
    have t5 := tm_old hF 5 _ h5 (by kernel_rfl)
    have hr : w.heap[rb]? = some (.cells u2.arr 145 (0, 0)) := by
      have hl := (Array.getElem?_eq_some_iff.1 hrb).1
      cases h6 : listed.getD 6 false with
      | false => exact ((hJ.s1 h6).block rb hl).trans hrb
      | true => exact ((hJ.s2 h6).1.block rb hl (Ne.symm hgr)).trans hrb
    have hL := ld_U w rb 0 u2.arr rfl (range_row hr)
    rw [hds] at hK
    unfold Oper.wp
    simp [execOp, hop, hds, t5, go_sem, hL]
    exact hK _ _ (hJ.set4 hls)
  | 5, ho, hun, hK =>
    have hop : o.op = .buildSlice 149 2 #[(0, .tmp 17), (1, .tmp 18)] := fact ho (by kernel_rfl)
    have hds : o.dst = some 19 := fact ho (by kernel_rfl)
    have d3 := dep_of ho hdep 3 (by kernel_rfl)
    have d4 := dep_of ho hdep 4 (by kernel_rfl)
    have t17 := tm_dep hF 3 17 (by kernel_rfl) d3
    have t18 := tm_dep hF 4 18 (by kernel_rfl) d4
    rw [hJ.x3 d3] at t17
    rw [hJ.x4 d4] at t18
    rw [hds] at hK
    unfold Ru.val Ru.arr at t17 t18
    unfold Oper.wp
    simp [execOp, hop, hds, t17, t18, go_sem]
    have hb : Below w.heap.size w (w.alloc (.cells (Ru.arr ⟨4, n, min n 8191, 0, 2097152⟩ ++ u2.arr) 145)) := (Below.refl _ w).alloc (Nat.le_refl _) _
    exact hK _ _ ((hJ.world hR hb).set5 hls w.heap.size hJ.sz (heap_alloc_new _ _))
  | 6, ho, hun, hK =>
    have hop : o.op = .call { callee := .value (.func 77), args := #[.tmp 14, .tmp 19], argTypes := #[128, 149] } := fact ho (by kernel_rfl)
    have hds : o.dst = some 20 := fact ho (by kernel_rfl)
    have d0 := dep_of ho hdep 0 (by kernel_rfl)
    have d5 := dep_of ho hdep 5 (by kernel_rfl)
    have t14 := tm_dep hF 0 14 (by kernel_rfl) d0
    have t19 := tm_dep hF 5 19 (by kernel_rfl) d5
    obtain ⟨b, e1, e2, e3⟩ := hJ.x5 d5
    rw [hJ.x0 d0] at t14
    rw [e1] at t19
    rw [hds] at hK
    unfold Oper.wp
    simp [execOp, hop, hds, t14, t19, go_sem]
    refine (hc6 w b (hJ.s1 (gfalse hun)) e2 (e3 (gfalse hun))).mono ?_
    rintro e w' (⟨c, rfl, hc, hb, hr⟩ | ⟨ch, rfl, hq⟩)
    · exact hK _ _ (hJ.set6 hls hun hg hb hr c hc)
    · exact hq _ hF.df
  | 7, ho, hun, hK =>
    have hop : o.op = .alloc 142 := fact ho (by kernel_rfl)
    have hds : o.dst = some 7 := fact ho (by kernel_rfl)
    rw [hds] at hK
    unfold Oper.wp
    simp [execOp, hop, hds, go_sem]
    have hb : Below w.heap.size w (w.alloc (.cells zRc 142)) := (Below.refl _ w).alloc (Nat.le_refl _) _
    exact hK _ _ ((hJ.world hR hb).set7 hls hun w.heap.size hJ.sz (heap_alloc_new _ _))
  | 8, ho, hun, hK =>
    have hop : o.op = .store 142 (.tmp 7) (.tmp 20) := fact ho (by kernel_rfl)
    have hds : o.dst = none := fact ho (by kernel_rfl)
    have d7 := dep_of ho hdep 7 (by kernel_rfl)
    have d6 := dep_of ho hdep 6 (by kernel_rfl)
    have t7 := tm_dep hF 7 7 (by kernel_rfl) d7
    have t20 := tm_dep hF 6 20 (by kernel_rfl) d6
    obtain ⟨b, e1, e2, e3, -⟩ := hJ.x7 d7
    obtain ⟨c, e5, e6⟩ := hJ.x6 d6
    rw [e1] at t7
    rw [e5] at t20
    rw [hds] at hK
    have hz := e3 (gfalse hun)
    have hS := st_Rc w b zRc c rfl (hC c e6).1 (hC c e6).2 hz
    unfold Oper.wp
    simp [execOp, hop, hds, t7, t20, go_sem, hS]
    exact hK undef _ (hJ.set8 hls hg d6 d7 b e1 e2 _ c hz e6 (hR2 w) _)
  | n + 9, ho, hun, hK =>
    exfalso
    have h1 : n + 9 < reg3b.size := (Array.getElem?_eq_some_iff.1 ho).1
    rw [size3b] at h1
    omega
end Go.Proofs.YtfimaflglnemdaaDoor
