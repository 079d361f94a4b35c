/- JournalReplays: lists of bytes of one's own. -/
import Derived.Test.YtlhpkpedooklnaaDoorJrQ
import Derived.Maps.AppendAt
import Derived.Laws.CopyOwn
import Derived.Lib.BufferMore
namespace Go.Proofs.YtlhpkpedooklnaaDoor
open Go.RowKit
def LIM : Nat := 140737488351232
theorem bs_one (l : List Nat) : ∀ u ∈ bs l, u.oneCell' = true := fun u hu => by
  obtain ⟨x, _, rfl⟩ := List.mem_map.1 hu
  rfl
theorem info_parts {P : Program} {e : TypeId} {z : Option Value} {s b : Nat} (h : (P.info? e).map (fun i => (i.zero, i.size, i.bytes)) = some (z, s, b)) : ∃ i, P.info? e = some i ∧ i.zero = z ∧ i.size = s ∧ i.bytes = b := by
  cases hq : P.info? e with
  | none => simp [hq] at h
  | some i =>
    rw [hq] at h
    simp only [Option.map_some, Option.some.injEq, Prod.mk.injEq] at h
    exact ⟨i, rfl, h.1, h.2.1, h.2.2⟩
theorem info5 : (Tryd.prog.info? 5).map (fun i => (i.zero, i.size, i.bytes)) = some (some (.int .u8 0), 1, 1) := by kernel_rfl
theorem infoBs : (Tryd.prog.info? 22).map (fun i => (i.zero, i.size, i.bytes)) = some (some (.slice none 0 0), 1, 24) := by kernel_rfl
theorem infoBss : (Tryd.prog.info? 27).map (fun i => (i.zero, i.size, i.bytes)) = some (some (.slice none 0 0), 1, 24) := by kernel_rfl
def apB (ty : Nat) (vs : Array Value) : Sem Value := Builtin.append_ #[22, 22] ty vs
theorem toApB (ty : Nat) (vs : Array Value) : Builtin.append_ #[22, 22] ty vs = apB ty vs := rfl
def apL (ty : Nat) (vs : Array Value) : Sem Value := Builtin.append_ #[27, 27] ty vs
theorem toApL (ty : Nat) (vs : Array Value) : Builtin.append_ #[27, 27] ty vs = apL ty vs := rfl
def apM (ty : Nat) (vs : Array Value) : Sem Value := Builtin.append_ #[28, 28] ty vs
theorem toApM (ty : Nat) (vs : Array Value) : Builtin.append_ #[28, 28] ty vs = apM ty vs := rfl
/-- Bytes behind bytes of one's own. -/
theorem run_apB1 (w : World) (base n : Nat) (v : Value) (xs : List Value) (l : List Nat) (a : Addr) (cap : Nat) (hown : w.ownsRow base 5 1 v n xs) (hl : ∀ (j : Nat) u, (bs l)[j]? = some u → w.cell? (a.add j) = some u) (hb : n + l.length ≤ LIM) (hbase : base ≤ w.heap.size) :
    ∃ v' w', (apB 22 #[v, .slice (some a) l.length cap]).run Tryd.prog w = .ok v' w' ∧ w'.ownsRow base 5 1 v' (n + l.length) (xs ++ bs l) ∧ w.grownBy w' v.ownBlock ∧ (v'.ownBlock = v.ownBlock ∨ v'.ownBlock = some w.heap.size) := by
  obtain ⟨i0, hi0, hz0, hz1, hz2⟩ := info_parts info5
  unfold LIM at hb
  obtain ⟨v', w', hr, ho, hg, -, hat⟩ := run_append_own_at (P := Tryd.prog) w base 22 22 5 i0 _ 1 1 Tryd.underlying22 hi0 hz0 hz1 hz2 rfl (by omega) v n xs hown a l.length cap (bs l) (by rw [bs_len]; omega) hl (bs_one l) (by unfold maxLen; omega) (by omega) hbase
  exact ⟨v', w', hr, ho, hg, hat⟩
/-- Bytes of one's own. -/
def Ob (B : Nat) (w : World) (v : Value) (l : List Nat) : Prop := w.ownsRow B 5 1 v l.length (bs l) ∧ Byt l
/-- Lists of them. -/
def Ll (B : Nat) (w : World) (v : Value) (ls : List (List Nat)) : Prop := ∃ vs : List Value, w.ownsRow B 22 1 v ls.length vs ∧ ∀ (i : Nat) (l : List Nat), ls[i]? = some l → ∃ x : Value, vs[i]? = some x ∧ Ob B w x l
/-- Lists of these. -/
def Lb (B : Nat) (w : World) (v : Value) (lss : List (List (List Nat))) : Prop := ∃ vs : List Value, w.ownsRow B 27 1 v lss.length vs ∧ ∀ (i : Nat) (ls : List (List Nat)), lss[i]? = some ls → ∃ x : Value, vs[i]? = some x ∧ Ll B w x ls
theorem own_keep {w w' : World} {B e sz n : Nat} {v : Value} {xs : List Value} (h : w.ownsRow B e sz v n xs) (hk : ∀ k c, B ≤ k → w.heap[k]? = some (.cells c e (0, 0)) → w'.heap[k]? = w.heap[k]?) : w'.ownsRow B e sz v n xs := by
  obtain ⟨h1, h2 | ⟨g, cap, cur, h2, h3, h4, h5⟩⟩ := h
  · exact ⟨h1, .inl h2⟩
  · exact ⟨h1, .inr ⟨g, cap, cur, h2, h3, (hk g cur h3 h4).trans h4, h5⟩⟩
theorem own_mono {w : World} {B B' e sz n : Nat} {v : Value} {xs : List Value} (h : w.ownsRow B e sz v n xs) (hb : B' ≤ B) : w.ownsRow B' e sz v n xs := by
  obtain ⟨h1, h2 | ⟨g, cap, cur, h2, h3, h4⟩⟩ := h
  · exact ⟨h1, .inl h2⟩
  · exact ⟨h1, .inr ⟨g, cap, cur, h2, Nat.le_trans hb h3, h4⟩⟩
theorem own_sl {w : World} {lo e sz n : Nat} {v : Value} {xs : List Value} (h : w.ownsRow lo e sz v n xs) : ∃ o c, v = .slice o n c := by
  rcases h.2 with ⟨h1, h2⟩ | ⟨g, cap, cur, h1, _⟩
  · exact ⟨_, _, by rw [h1, h2]⟩
  · exact ⟨_, _, h1⟩
theorem Ob.keep {B : Nat} {w w' : World} {v : Value} {l : List Nat} (h : Ob B w v l) (hk : ∀ k c, B ≤ k → w.heap[k]? = some (.cells c 5 (0, 0)) → w'.heap[k]? = w.heap[k]?) : Ob B w' v l := ⟨own_keep h.1 hk, h.2⟩
theorem Ob.mono {B B' : Nat} {w : World} {v : Value} {l : List Nat} (h : Ob B w v l) (hb : B' ≤ B) : Ob B' w v l := ⟨own_mono h.1 hb, h.2⟩
theorem Ll.mono {B B' : Nat} {w : World} {v : Value} {ls : List (List Nat)} (h : Ll B w v ls) (hb : B' ≤ B) : Ll B' w v ls := by
  obtain ⟨vs, h1, h2⟩ := h
  exact ⟨vs, own_mono h1 hb, fun i l hl => let ⟨x, h3, h4⟩ := h2 i l hl; ⟨x, h3, h4.mono hb⟩⟩
theorem Lb.mono {B B' : Nat} {w : World} {v : Value} {ls : List (List (List Nat))} (h : Lb B w v ls) (hb : B' ≤ B) : Lb B' w v ls := by
  obtain ⟨vs, h1, h2⟩ := h
  exact ⟨vs, own_mono h1 hb, fun i l hl => let ⟨x, h3, h4⟩ := h2 i l hl; ⟨x, h3, h4.mono hb⟩⟩
/-- The blocks of some types stay. -/
def Stay (B : Nat) (T : Nat → Prop) (w w' : World) : Prop := ∀ k c t, B ≤ k → T t → w.heap[k]? = some (.cells c t (0, 0)) → w'.heap[k]? = w.heap[k]?
theorem Ll.keep {B : Nat} {w w' : World} {v : Value} {ls : List (List Nat)} (h : Ll B w v ls) (hk : Stay B (fun t => t = 5 ∨ t = 22) w w') : Ll B w' v ls := by
  obtain ⟨vs, h1, h2⟩ := h
  exact ⟨vs, own_keep h1 (fun k c hB hc => hk k c _ hB (.inr rfl) hc), fun i l hl => let ⟨x, h3, h4⟩ := h2 i l hl; ⟨x, h3, h4.keep (fun k c hB hc => hk k c _ hB (.inl rfl) hc)⟩⟩
theorem Lb.keep {B : Nat} {w w' : World} {v : Value} {ls : List (List (List Nat))} (h : Lb B w v ls) (hk : Stay B (fun t => t = 5 ∨ t = 22 ∨ t = 27) w w') : Lb B w' v ls := by
  obtain ⟨vs, h1, h2⟩ := h
  exact ⟨vs, own_keep h1 (fun k c hB hc => hk k c _ hB (.inr (.inr rfl)) hc), fun i l hl => let ⟨x, h3, h4⟩ := h2 i l hl; ⟨x, h3, h4.keep (fun k c t hB ht hc => hk k c t hB (ht.elim .inl (fun h => .inr (.inl h))) hc)⟩⟩
theorem stay_below {B : Nat} {T : Nat → Prop} {w w' : World} (h : Below w.heap.size w w') : Stay B T w w' := fun k _ _ _ _ hc => h.block k (Array.getElem?_eq_some_iff.1 hc).1
theorem stay_but {B g : Nat} {T : Nat → Prop} {w w' : World} (h : But g w w') (hg : g < B) : Stay B T w w' := fun k c t hB _ hc => h.block k (Array.getElem?_eq_some_iff.1 hc).1 (by omega)
theorem Ll.nil (B : Nat) (w : World) : Ll B w (.slice none 0 0) [] := ⟨[], World.ownsRow_nil _ _ _ _, fun i l h => by simp at h⟩
theorem Lb.nil (B : Nat) (w : World) : Lb B w (.slice none 0 0) [] := ⟨[], World.ownsRow_nil _ _ _ _, fun i l h => by simp at h⟩
theorem Ll.sl {B : Nat} {w : World} {v : Value} {ls : List (List Nat)} (h : Ll B w v ls) : ∃ o c, v = .slice o ls.length c := let ⟨_, h1, _⟩ := h; own_sl h1
theorem Lb.sl {B : Nat} {w : World} {v : Value} {ls : List (List (List Nat))} (h : Lb B w v ls) : ∃ o c, v = .slice o ls.length c := let ⟨_, h1, _⟩ := h; own_sl h1
theorem Ob.sl {B : Nat} {w : World} {v : Value} {l : List Nat} (h : Ob B w v l) : ∃ o c, v = .slice o l.length c := own_sl h.1
/-- What an append leaves. -/
structure Gr (B t : Nat) (w w' : World) : Prop where
  os : w'.os = w.os
  tape : w'.tape = w.tape
  output : w'.output = w.output
  size : w.heap.size ≤ w'.heap.size
  low : ∀ k : Nat, k < B → k < w.heap.size → w'.heap[k]? = w.heap[k]?
  oth : ∀ (k : Nat) (c : Array Value) (t' : Nat), w.heap[k]? = some (.cells c t' (0, 0)) → t' ≠ t → w'.heap[k]? = w.heap[k]?
theorem gr_of {B e sz n : Nat} {w w1 w' : World} {v : Value} {xs : List Value} {o : Obj} (hw1 : w1 = w.alloc o) (h : w.ownsRow B e sz v n xs) (hg : w1.grownBy w' v.ownBlock) : Gr B e w w' := by
  subst hw1
  refine ⟨hg.os, hg.tape, hg.output, Nat.le_trans (by simp) hg.size, fun k hk hk2 => ?_, fun k c t' hc ht => ?_⟩
  · refine (hg.block k (by simp; omega) ?_).trans (heap_alloc_old _ _ (h := hk2))
    intro e1
    rcases h.2 with ⟨h1, _⟩ | ⟨g, cap, cur, h1, h2, _⟩
    · rw [h1] at e1; cases e1
    · rw [h1] at e1; simp [Value.ownBlock] at e1; omega
  · have hk2 := (Array.getElem?_eq_some_iff.1 hc).1
    refine (hg.block k (by simp; omega) ?_).trans (heap_alloc_old _ _ (h := hk2))
    intro e1
    rcases h.2 with ⟨h1, _⟩ | ⟨g, cap, cur, h1, h2, h3, _⟩
    · rw [h1] at e1; cases e1
    · rw [h1] at e1; simp [Value.ownBlock] at e1; subst e1; rw [hc] at h3; injection h3 with h3; injection h3 with _ h3; exact ht h3
theorem Gr.below {B t : Nat} {w w' X : World} (h : Gr B t w w') (hX : Below B X w) (hB : B ≤ X.heap.size) : Below B X w' :=
  ⟨h.os.trans hX.os, h.tape.trans hX.tape, h.output.trans hX.output, Nat.le_trans hX.size h.size, fun k hk => (h.low k hk (by have := hX.size; omega)).trans (hX.block k hk)⟩
theorem Gr.stay {B B' t : Nat} {T : Nat → Prop} {w w' : World} (h : Gr B t w w') (hT : ∀ x, T x → x ≠ t) : Stay B' T w w' := fun k c t' _ ht hc => h.oth k c t' hc (hT t' ht)
/-- One more. -/
theorem Ll.add {B : Nat} {w : World} {v x : Value} {ls : List (List Nat)} {l : List Nat} (h : Ll B w v ls) (hB : B ≤ w.heap.size) (hx : Ob B w x l) (hk : ls.length < 100000000) :
    ∃ a c w', (apL 27 #[v, .slice (some ⟨w.heap.size, 0, none⟩) 1 1]).run Tryd.prog (w.alloc (.cells #[x] 22)) = .ok (.slice a (ls.length + 1) c) w' ∧ Ll B w' (.slice a (ls.length + 1) c) (ls ++ [l]) ∧ Gr B 22 w w' := by
  obtain ⟨vs, h1, h2⟩ := h
  obtain ⟨i0, hi0, hz0, hz1, hz2⟩ := info_parts infoBs
  have hA : (w.alloc (.cells #[x] 22)).ownsRow B 22 1 v ls.length vs := own_keep h1 (fun k c _ hc => heap_alloc_old _ _ (h := (Array.getElem?_eq_some_iff.1 hc).1))
  obtain ⟨o, c0, hv⟩ := hx.sl
  obtain ⟨v', w', hr, ho, hg, -, -⟩ := run_append_own_at (P := Tryd.prog) (w.alloc (.cells #[x] 22)) B 27 27 22 i0 _ 1 24 Tryd.underlying27 hi0 hz0 hz1 hz2 rfl (by omega) v ls.length vs hA ⟨w.heap.size, 0, none⟩ 1 1 [x] rfl (fun j u hu => by
    match j, hu with
    | 0, hu =>
      injection hu with hu
      subst hu
      exact (cell_of_row _ _ _ _ _ _ (heap_alloc_new _ _)).trans rfl) (fun u hu => by rw [List.mem_singleton.1 hu, hv]; rfl) (by unfold maxLen; omega) (by omega) (by simp; omega)
  have hG := gr_of rfl h1 hg
  obtain ⟨a, c, rfl⟩ := own_sl ho
  refine ⟨a, c, w', hr, ⟨vs ++ [x], by rw [List.length_append]; exact ho, fun i l' hl => ?_⟩, hG⟩
  have hvl : vs.length = ls.length := by simpa using h1.1
  have st : Stay B (fun t => t = 5) w w' := hG.stay (fun t ht => by subst ht; decide)
  rcases Nat.lt_or_ge i ls.length with hi | hi
  · rw [List.getElem?_append_left hi] at hl
    obtain ⟨y, h3, h4⟩ := h2 i l' hl
    exact ⟨y, by rw [List.getElem?_append_left (by omega)]; exact h3, h4.keep (fun k c hB hc => st k c _ hB rfl hc)⟩
  · rw [List.getElem?_append_right hi] at hl
    have hi0 : i = ls.length := by
      by_cases e : i - ls.length = 0
      · omega
      · rw [List.getElem?_eq_none (by simp; omega)] at hl; cases hl
    subst hi0
    simp only [Nat.sub_self, List.getElem?_cons_zero, Option.some.injEq] at hl
    subst hl
    exact ⟨x, by rw [List.getElem?_append_right (by omega), hvl]; simp, hx.keep (fun k c hB hc => st k c _ hB rfl hc)⟩
theorem Lb.add {B : Nat} {w : World} {v x : Value} {lss : List (List (List Nat))} {ls : List (List Nat)} (h : Lb B w v lss) (hB : B ≤ w.heap.size) (hx : Ll B w x ls) (hk : lss.length < 100000000) :
    ∃ a c w', (apM 28 #[v, .slice (some ⟨w.heap.size, 0, none⟩) 1 1]).run Tryd.prog (w.alloc (.cells #[x] 27)) = .ok (.slice a (lss.length + 1) c) w' ∧ Lb B w' (.slice a (lss.length + 1) c) (lss ++ [ls]) ∧ Gr B 27 w w' := by
  obtain ⟨vs, h1, h2⟩ := h
  obtain ⟨i0, hi0, hz0, hz1, hz2⟩ := info_parts infoBss
  have hA : (w.alloc (.cells #[x] 27)).ownsRow B 27 1 v lss.length vs := own_keep h1 (fun k c _ hc => heap_alloc_old _ _ (h := (Array.getElem?_eq_some_iff.1 hc).1))
  obtain ⟨o, c0, hv⟩ := hx.sl
  obtain ⟨v', w', hr, ho, hg, -, -⟩ := run_append_own_at (P := Tryd.prog) (w.alloc (.cells #[x] 27)) B 28 28 27 i0 _ 1 24 Tryd.underlying28 hi0 hz0 hz1 hz2 rfl (by omega) v lss.length vs hA ⟨w.heap.size, 0, none⟩ 1 1 [x] rfl (fun j u hu => by
    match j, hu with
    | 0, hu =>
      injection hu with hu
      subst hu
      exact (cell_of_row _ _ _ _ _ _ (heap_alloc_new _ _)).trans rfl) (fun u hu => by rw [List.mem_singleton.1 hu, hv]; rfl) (by unfold maxLen; omega) (by omega) (by simp; omega)
  have hG := gr_of rfl h1 hg
  obtain ⟨a, c, rfl⟩ := own_sl ho
  refine ⟨a, c, w', hr, ⟨vs ++ [x], by rw [List.length_append]; exact ho, fun i l' hl => ?_⟩, hG⟩
  have hvl : vs.length = lss.length := by simpa using h1.1
  have st : Stay B (fun t => t = 5 ∨ t = 22) w w' := hG.stay (fun t ht => by rcases ht with ht | ht <;> (subst ht; decide))
  rcases Nat.lt_or_ge i lss.length with hi | hi
  · rw [List.getElem?_append_left hi] at hl
    obtain ⟨y, h3, h4⟩ := h2 i l' hl
    exact ⟨y, by rw [List.getElem?_append_left (by omega)]; exact h3, h4.keep st⟩
  · rw [List.getElem?_append_right hi] at hl
    have hi0 : i = lss.length := by
      by_cases e : i - lss.length = 0
      · omega
      · rw [List.getElem?_eq_none (by simp; omega)] at hl; cases hl
    subst hi0
    simp only [Nat.sub_self, List.getElem?_cons_zero, Option.some.injEq] at hl
    subst hl
    exact ⟨x, by rw [List.getElem?_append_right (by omega), hvl]; simp, hx.keep st⟩
attribute [local go_sem ↓] toApB in
set_option maxRecDepth 100000 in
theorem clone_any (u : Value) (l : List Nat) (W : World) (hl : Bl W u l) (hlim : l.length ≤ LIM) : Calls Tryd.prog 28 #[u] W fun e w' => ∃ v', e = .returned v' ∧ Ob W.heap.size w' v' l ∧ Below W.heap.size W w' := by
  obtain ⟨oa, cp, rfl, h2, h3, h4, h5⟩ := hl
  cases oa with
  | none =>
    have hl0 : l = [] := by
      cases l with
      | nil => rfl
      | cons x r => obtain ⟨g, o, e, _⟩ := h5 0 _ (by simp [bs]; rfl); cases e
    subst hl0
    have hn := fun w c => Lib.run_eql_slice_nil_nil (P := Tryd.prog) w (t := 22) 0 c Tryd.underlying22
    go_enter Tryd.func28, Tryd.ntmps28
    go_wp2
    go_ret
    exact ⟨_, rfl, ⟨World.ownsRow_nil _ _ _ _, h4⟩, Below.refl _ _⟩
  | some a =>
    obtain ⟨W1, hW1⟩ : ∃ W1, W.alloc (.cells #[] 5) = W1 := ⟨_, rfl⟩
    have b1 : Below W.heap.size W W1 := by rw [← hW1]; exact (Below.refl _ W).alloc (Nat.le_refl _) _
    have r1 : W1.heap[W.heap.size]? = some (.cells #[] 5 (0, 0)) := by rw [← hW1]; exact heap_alloc_new _ _
    have o1 : W1.ownsRow W.heap.size 5 1 (.slice (some ⟨W.heap.size, 0, none⟩) 0 0) 0 [] := ⟨rfl, .inr ⟨W.heap.size, 0, #[], rfl, Nat.le_refl _, r1, Nat.le_refl _, by unfold maxLen; omega, rfl, rfl⟩⟩
    obtain ⟨v', X, hr, ho, hg, hat⟩ := run_apB1 W1 W.heap.size 0 _ [] l a cp o1 (fun j u hu => by
      obtain ⟨g, o, e1, e2, e3⟩ := h5 j u hu
      cases e1
      rw [Addr.add_mid]
      exact (World.cell?_of_block (w := W) (a := ⟨g, o + j, none⟩) (b1.block g e2)).trans e3) (by omega) (by have := b1.size; omega)
    rw [Nat.zero_add, List.nil_append] at ho
    have bX : Below W.heap.size W X := by
      refine ⟨hg.os.trans b1.os, hg.tape.trans b1.tape, hg.output.trans b1.output, Nat.le_trans b1.size hg.size, fun j hj => (hg.block j (by have := b1.size; omega) (fun e => by simp [Value.ownBlock] at e; omega)).trans (b1.block j hj)⟩
    have HF : Hid (Ob W.heap.size X v' l ∧ Below W.heap.size W X) := ⟨⟨ho, h4⟩, bX⟩
    rw [← hW1] at hr
    clear hW1 b1 r1 o1 ho hg hat bX h2 h3 h4 h5 hlim
    have hn := fun w => Lib.run_eql_slice_some_nil (P := Tryd.prog) w (t := 22) a l.length cp Tryd.underlying22
    go_enter Tryd.func28, Tryd.ntmps28
    go_wp2
    go_ret
    exact ⟨v', rfl, HF.out⟩
end Go.Proofs.YtlhpkpedooklnaaDoor
