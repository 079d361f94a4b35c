/- Several texts in one: JrR, JrS, JrT. -/
import Derived.Test.YtfimaflglnemdaaDoorJrQ
import Derived.Maps.AppendAt
import Derived.Laws.CopyOwn
import Derived.Lib.BufferMore
/- JournalReplays: lists of bytes of one's own. -/
namespace Go.Proofs.YtfimaflglnemdaaDoor
open Go.RowKit
set_option maxRecDepth 20000
def LIM : Nat := 140737488351232
theorem bs_one (l : List Nat) : ∀ u ∈ bs l, u.oneCell' = true := fun u hu => by
  obtain ⟨x, _, rfl⟩ := List.mem_map.1 hu
  rfl
theorem info_parts {P : Program} {e : TypeId} {z : Option Value} {s b : Nat} (h : (P.info? e).map (fun i => (i.zero, i.size, i.bytes)) = some (z, s, b)) : ∃ i, P.info? e = some i ∧ i.zero = z ∧ i.size = s ∧ i.bytes = b := by
  cases hq : P.info? e with
  | none => simp [hq] at h
  | some i =>
    rw [hq] at h
    simp only [Option.map_some, Option.some.injEq, Prod.mk.injEq] at h
    exact ⟨i, rfl, h.1, h.2.1, h.2.2⟩
theorem info5 : (Tryd.prog.info? 5).map (fun i => (i.zero, i.size, i.bytes)) = some (some (.int .u8 0), 1, 1) := by kernel_rfl
theorem infoBs : (Tryd.prog.info? 23).map (fun i => (i.zero, i.size, i.bytes)) = some (some (.slice none 0 0), 1, 24) := by kernel_rfl
theorem infoBss : (Tryd.prog.info? 27).map (fun i => (i.zero, i.size, i.bytes)) = some (some (.slice none 0 0), 1, 24) := by kernel_rfl
def apB (ty : Nat) (vs : Array Value) : Sem Value := Builtin.append_ #[23, 23] ty vs
theorem toApB (ty : Nat) (vs : Array Value) : Builtin.append_ #[23, 23] ty vs = apB ty vs := rfl
def apL (ty : Nat) (vs : Array Value) : Sem Value := Builtin.append_ #[27, 27] ty vs
theorem toApL (ty : Nat) (vs : Array Value) : Builtin.append_ #[27, 27] ty vs = apL ty vs := rfl
def apM (ty : Nat) (vs : Array Value) : Sem Value := Builtin.append_ #[28, 28] ty vs
theorem toApM (ty : Nat) (vs : Array Value) : Builtin.append_ #[28, 28] ty vs = apM ty vs := rfl
/-- Bytes behind bytes of one's own. -/
theorem run_apB1 (w : World) (base n : Nat) (v : Value) (xs : List Value) (l : List Nat) (a : Addr) (cap : Nat) (hown : w.ownsRow base 5 1 v n xs) (hl : ∀ (j : Nat) u, (bs l)[j]? = some u → w.cell? (a.add j) = some u) (hb : n + l.length ≤ LIM) (hbase : base ≤ w.heap.size) :
    ∃ v' w', (apB 23 #[v, .slice (some a) l.length cap]).run Tryd.prog w = .ok v' w' ∧ w'.ownsRow base 5 1 v' (n + l.length) (xs ++ bs l) ∧ w.grownBy w' v.ownBlock ∧ (v'.ownBlock = v.ownBlock ∨ v'.ownBlock = some w.heap.size) := by
  obtain ⟨i0, hi0, hz0, hz1, hz2⟩ := info_parts info5
  unfold LIM at hb
  obtain ⟨v', w', hr, ho, hg, -, hat⟩ := run_append_own_at (P := Tryd.prog) w base 23 23 5 i0 _ 1 1 Tryd.underlying23 hi0 hz0 hz1 hz2 rfl (by omega) v n xs hown a l.length cap (bs l) (by rw [bs_len]; omega) hl (bs_one l) (by unfold maxLen; omega) (by omega) hbase
  exact ⟨v', w', hr, ho, hg, hat⟩
/-- Bytes of one's own. -/
def Ob (B : Nat) (w : World) (v : Value) (l : List Nat) : Prop := w.ownsRow B 5 1 v l.length (bs l) ∧ Byt l
/-- Lists of them. -/
def Ll (B : Nat) (w : World) (v : Value) (ls : List (List Nat)) : Prop := ∃ vs : List Value, w.ownsRow B 23 1 v ls.length vs ∧ ∀ (i : Nat) (l : List Nat), ls[i]? = some l → ∃ x : Value, vs[i]? = some x ∧ Ob B w x l
/-- Lists of these. -/
def Lb (B : Nat) (w : World) (v : Value) (lss : List (List (List Nat))) : Prop := ∃ vs : List Value, w.ownsRow B 27 1 v lss.length vs ∧ ∀ (i : Nat) (ls : List (List Nat)), lss[i]? = some ls → ∃ x : Value, vs[i]? = some x ∧ Ll B w x ls
theorem own_keep {w w' : World} {B e sz n : Nat} {v : Value} {xs : List Value} (h : w.ownsRow B e sz v n xs) (hk : ∀ k c, B ≤ k → w.heap[k]? = some (.cells c e (0, 0)) → w'.heap[k]? = w.heap[k]?) : w'.ownsRow B e sz v n xs := by
  obtain ⟨h1, h2 | ⟨g, cap, cur, h2, h3, h4, h5⟩⟩ := h
  · exact ⟨h1, .inl h2⟩
  · exact ⟨h1, .inr ⟨g, cap, cur, h2, h3, (hk g cur h3 h4).trans h4, h5⟩⟩
theorem own_mono {w : World} {B B' e sz n : Nat} {v : Value} {xs : List Value} (h : w.ownsRow B e sz v n xs) (hb : B' ≤ B) : w.ownsRow B' e sz v n xs := by
  obtain ⟨h1, h2 | ⟨g, cap, cur, h2, h3, h4⟩⟩ := h
  · exact ⟨h1, .inl h2⟩
  · exact ⟨h1, .inr ⟨g, cap, cur, h2, Nat.le_trans hb h3, h4⟩⟩
theorem own_sl {w : World} {lo e sz n : Nat} {v : Value} {xs : List Value} (h : w.ownsRow lo e sz v n xs) : ∃ o c, v = .slice o n c := by
  rcases h.2 with ⟨h1, h2⟩ | ⟨g, cap, cur, h1, _⟩
  · exact ⟨_, _, by rw [h1, h2]⟩
  · exact ⟨_, _, h1⟩
theorem Ob.keep {B : Nat} {w w' : World} {v : Value} {l : List Nat} (h : Ob B w v l) (hk : ∀ k c, B ≤ k → w.heap[k]? = some (.cells c 5 (0, 0)) → w'.heap[k]? = w.heap[k]?) : Ob B w' v l := ⟨own_keep h.1 hk, h.2⟩
theorem Ob.mono {B B' : Nat} {w : World} {v : Value} {l : List Nat} (h : Ob B w v l) (hb : B' ≤ B) : Ob B' w v l := ⟨own_mono h.1 hb, h.2⟩
theorem Ll.mono {B B' : Nat} {w : World} {v : Value} {ls : List (List Nat)} (h : Ll B w v ls) (hb : B' ≤ B) : Ll B' w v ls := by
  obtain ⟨vs, h1, h2⟩ := h
  exact ⟨vs, own_mono h1 hb, fun i l hl => let ⟨x, h3, h4⟩ := h2 i l hl; ⟨x, h3, h4.mono hb⟩⟩
theorem Lb.mono {B B' : Nat} {w : World} {v : Value} {ls : List (List (List Nat))} (h : Lb B w v ls) (hb : B' ≤ B) : Lb B' w v ls := by
  obtain ⟨vs, h1, h2⟩ := h
  exact ⟨vs, own_mono h1 hb, fun i l hl => let ⟨x, h3, h4⟩ := h2 i l hl; ⟨x, h3, h4.mono hb⟩⟩
/-- The blocks of some types stay. -/
def Stay (B : Nat) (T : Nat → Prop) (w w' : World) : Prop := ∀ k c t, B ≤ k → T t → w.heap[k]? = some (.cells c t (0, 0)) → w'.heap[k]? = w.heap[k]?
theorem Ll.keep {B : Nat} {w w' : World} {v : Value} {ls : List (List Nat)} (h : Ll B w v ls) (hk : Stay B (fun t => t = 5 ∨ t = 23) w w') : Ll B w' v ls := by
  obtain ⟨vs, h1, h2⟩ := h
  exact ⟨vs, own_keep h1 (fun k c hB hc => hk k c _ hB (.inr rfl) hc), fun i l hl => let ⟨x, h3, h4⟩ := h2 i l hl; ⟨x, h3, h4.keep (fun k c hB hc => hk k c _ hB (.inl rfl) hc)⟩⟩
theorem Lb.keep {B : Nat} {w w' : World} {v : Value} {ls : List (List (List Nat))} (h : Lb B w v ls) (hk : Stay B (fun t => t = 5 ∨ t = 23 ∨ t = 27) w w') : Lb B w' v ls := by
  obtain ⟨vs, h1, h2⟩ := h
  exact ⟨vs, own_keep h1 (fun k c hB hc => hk k c _ hB (.inr (.inr rfl)) hc), fun i l hl => let ⟨x, h3, h4⟩ := h2 i l hl; ⟨x, h3, h4.keep (fun k c t hB ht hc => hk k c t hB (ht.elim .inl (fun h => .inr (.inl h))) hc)⟩⟩
theorem stay_below {B : Nat} {T : Nat → Prop} {w w' : World} (h : Below w.heap.size w w') : Stay B T w w' := fun k _ _ _ _ hc => h.block k (Array.getElem?_eq_some_iff.1 hc).1
theorem stay_but {B g : Nat} {T : Nat → Prop} {w w' : World} (h : But g w w') (hg : g < B) : Stay B T w w' := fun k c t hB _ hc => h.block k (Array.getElem?_eq_some_iff.1 hc).1 (by omega)
theorem Ll.nil (B : Nat) (w : World) : Ll B w (.slice none 0 0) [] := ⟨[], World.ownsRow_nil _ _ _ _, fun i l h => by simp at h⟩
theorem Lb.nil (B : Nat) (w : World) : Lb B w (.slice none 0 0) [] := ⟨[], World.ownsRow_nil _ _ _ _, fun i l h => by simp at h⟩
theorem Ll.sl {B : Nat} {w : World} {v : Value} {ls : List (List Nat)} (h : Ll B w v ls) : ∃ o c, v = .slice o ls.length c := let ⟨_, h1, _⟩ := h; own_sl h1
theorem Lb.sl {B : Nat} {w : World} {v : Value} {ls : List (List (List Nat))} (h : Lb B w v ls) : ∃ o c, v = .slice o ls.length c := let ⟨_, h1, _⟩ := h; own_sl h1
theorem Ob.sl {B : Nat} {w : World} {v : Value} {l : List Nat} (h : Ob B w v l) : ∃ o c, v = .slice o l.length c := own_sl h.1
/-- What an append leaves. -/
structure Gr (B t : Nat) (w w' : World) : Prop where
  os : w'.os = w.os
  tape : w'.tape = w.tape
  output : w'.output = w.output
  size : w.heap.size ≤ w'.heap.size
  low : ∀ k : Nat, k < B → k < w.heap.size → w'.heap[k]? = w.heap[k]?
  oth : ∀ (k : Nat) (c : Array Value) (t' : Nat), w.heap[k]? = some (.cells c t' (0, 0)) → t' ≠ t → w'.heap[k]? = w.heap[k]?
theorem gr_of {B e sz n : Nat} {w w1 w' : World} {v : Value} {xs : List Value} {o : Obj} (hw1 : w1 = w.alloc o) (h : w.ownsRow B e sz v n xs) (hg : w1.grownBy w' v.ownBlock) : Gr B e w w' := by
  subst hw1
  refine ⟨hg.os, hg.tape, hg.output, Nat.le_trans (by simp) hg.size, fun k hk hk2 => ?_, fun k c t' hc ht => ?_⟩
  · refine (hg.block k (by simp; omega) ?_).trans (heap_alloc_old _ _ (h := hk2))
    intro e1
    rcases h.2 with ⟨h1, _⟩ | ⟨g, cap, cur, h1, h2, _⟩
    · rw [h1] at e1; cases e1
    · rw [h1] at e1; simp [Value.ownBlock] at e1; omega
  · have hk2 := (Array.getElem?_eq_some_iff.1 hc).1
    refine (hg.block k (by simp; omega) ?_).trans (heap_alloc_old _ _ (h := hk2))
    intro e1
    rcases h.2 with ⟨h1, _⟩ | ⟨g, cap, cur, h1, h2, h3, _⟩
    · rw [h1] at e1; cases e1
    · rw [h1] at e1; simp [Value.ownBlock] at e1; subst e1; rw [hc] at h3; injection h3 with h3; injection h3 with _ h3; exact ht h3
theorem Gr.below {B t : Nat} {w w' X : World} (h : Gr B t w w') (hX : Below B X w) (hB : B ≤ X.heap.size) : Below B X w' :=
  ⟨h.os.trans hX.os, h.tape.trans hX.tape, h.output.trans hX.output, Nat.le_trans hX.size h.size, fun k hk => (h.low k hk (by have := hX.size; omega)).trans (hX.block k hk)⟩
theorem Gr.stay {B B' t : Nat} {T : Nat → Prop} {w w' : World} (h : Gr B t w w') (hT : ∀ x, T x → x ≠ t) : Stay B' T w w' := fun k c t' _ ht hc => h.oth k c t' hc (hT t' ht)
/-- One more. -/
theorem Ll.add {B : Nat} {w : World} {v x : Value} {ls : List (List Nat)} {l : List Nat} (h : Ll B w v ls) (hB : B ≤ w.heap.size) (hx : Ob B w x l) (hk : ls.length < 100000000) :
    ∃ a c w', (apL 27 #[v, .slice (some ⟨w.heap.size, 0, none⟩) 1 1]).run Tryd.prog (w.alloc (.cells #[x] 23)) = .ok (.slice a (ls.length + 1) c) w' ∧ Ll B w' (.slice a (ls.length + 1) c) (ls ++ [l]) ∧ Gr B 23 w w' := by
  obtain ⟨vs, h1, h2⟩ := h
  obtain ⟨i0, hi0, hz0, hz1, hz2⟩ := info_parts infoBs
  have hA : (w.alloc (.cells #[x] 23)).ownsRow B 23 1 v ls.length vs := own_keep h1 (fun k c _ hc => heap_alloc_old _ _ (h := (Array.getElem?_eq_some_iff.1 hc).1))
  obtain ⟨o, c0, hv⟩ := hx.sl
  obtain ⟨v', w', hr, ho, hg, -, -⟩ := run_append_own_at (P := Tryd.prog) (w.alloc (.cells #[x] 23)) B 27 27 23 i0 _ 1 24 Tryd.underlying27 hi0 hz0 hz1 hz2 rfl (by omega) v ls.length vs hA ⟨w.heap.size, 0, none⟩ 1 1 [x] rfl (fun j u hu => by
    match j, hu with
    | 0, hu =>
      injection hu with hu
      subst hu
      exact (cell_of_row _ _ _ _ _ _ (heap_alloc_new _ _)).trans rfl) (fun u hu => by rw [List.mem_singleton.1 hu, hv]; rfl) (by unfold maxLen; omega) (by omega) (by simp; omega)
  have hG := gr_of rfl h1 hg
  obtain ⟨a, c, rfl⟩ := own_sl ho
  refine ⟨a, c, w', hr, ⟨vs ++ [x], by rw [List.length_append]; exact ho, fun i l' hl => ?_⟩, hG⟩
  have hvl : vs.length = ls.length := by simpa using h1.1
  have st : Stay B (fun t => t = 5) w w' := hG.stay (fun t ht => by subst ht; decide)
  rcases Nat.lt_or_ge i ls.length with hi | hi
  · rw [List.getElem?_append_left hi] at hl
    obtain ⟨y, h3, h4⟩ := h2 i l' hl
    exact ⟨y, by rw [List.getElem?_append_left (by omega)]; exact h3, h4.keep (fun k c hB hc => st k c _ hB rfl hc)⟩
  · rw [List.getElem?_append_right hi] at hl
    have hi0 : i = ls.length := by
      by_cases e : i - ls.length = 0
      · omega
      · rw [List.getElem?_eq_none (by simp; omega)] at hl; cases hl
    subst hi0
    simp only [Nat.sub_self, List.getElem?_cons_zero, Option.some.injEq] at hl
    subst hl
    exact ⟨x, by rw [List.getElem?_append_right (by omega), hvl]; simp, hx.keep (fun k c hB hc => st k c _ hB rfl hc)⟩
theorem Lb.add {B : Nat} {w : World} {v x : Value} {lss : List (List (List Nat))} {ls : List (List Nat)} (h : Lb B w v lss) (hB : B ≤ w.heap.size) (hx : Ll B w x ls) (hk : lss.length < 100000000) :
    ∃ a c w', (apM 28 #[v, .slice (some ⟨w.heap.size, 0, none⟩) 1 1]).run Tryd.prog (w.alloc (.cells #[x] 27)) = .ok (.slice a (lss.length + 1) c) w' ∧ Lb B w' (.slice a (lss.length + 1) c) (lss ++ [ls]) ∧ Gr B 27 w w' := by
  obtain ⟨vs, h1, h2⟩ := h
  obtain ⟨i0, hi0, hz0, hz1, hz2⟩ := info_parts infoBss
  have hA : (w.alloc (.cells #[x] 27)).ownsRow B 27 1 v lss.length vs := own_keep h1 (fun k c _ hc => heap_alloc_old _ _ (h := (Array.getElem?_eq_some_iff.1 hc).1))
  obtain ⟨o, c0, hv⟩ := hx.sl
  obtain ⟨v', w', hr, ho, hg, -, -⟩ := run_append_own_at (P := Tryd.prog) (w.alloc (.cells #[x] 27)) B 28 28 27 i0 _ 1 24 Tryd.underlying28 hi0 hz0 hz1 hz2 rfl (by omega) v lss.length vs hA ⟨w.heap.size, 0, none⟩ 1 1 [x] rfl (fun j u hu => by
    match j, hu with
    | 0, hu =>
      injection hu with hu
      subst hu
      exact (cell_of_row _ _ _ _ _ _ (heap_alloc_new _ _)).trans rfl) (fun u hu => by rw [List.mem_singleton.1 hu, hv]; rfl) (by unfold maxLen; omega) (by omega) (by simp; omega)
  have hG := gr_of rfl h1 hg
  obtain ⟨a, c, rfl⟩ := own_sl ho
  refine ⟨a, c, w', hr, ⟨vs ++ [x], by rw [List.length_append]; exact ho, fun i l' hl => ?_⟩, hG⟩
  have hvl : vs.length = lss.length := by simpa using h1.1
  have st : Stay B (fun t => t = 5 ∨ t = 23) w w' := hG.stay (fun t ht => by rcases ht with ht | ht <;> (subst ht; decide))
  rcases Nat.lt_or_ge i lss.length with hi | hi
  · rw [List.getElem?_append_left hi] at hl
    obtain ⟨y, h3, h4⟩ := h2 i l' hl
    exact ⟨y, by rw [List.getElem?_append_left (by omega)]; exact h3, h4.keep st⟩
  · rw [List.getElem?_append_right hi] at hl
    have hi0 : i = lss.length := by
      by_cases e : i - lss.length = 0
      · omega
      · rw [List.getElem?_eq_none (by simp; omega)] at hl; cases hl
    subst hi0
    simp only [Nat.sub_self, List.getElem?_cons_zero, Option.some.injEq] at hl
    subst hl
    exact ⟨x, by rw [List.getElem?_append_right (by omega), hvl]; simp, hx.keep st⟩
attribute [local go_sem ↓] toApB in
set_option maxRecDepth 100000 in
theorem clone_any (u : Value) (l : List Nat) (W : World) (hl : Bl W u l) (hlim : l.length ≤ LIM) : Calls Tryd.prog 63 #[u] W fun e w' => ∃ v', e = .returned v' ∧ Ob W.heap.size w' v' l ∧ Below W.heap.size W w' := by
  obtain ⟨oa, cp, rfl, h2, h3, h4, h5⟩ := hl
  cases oa with
  | none =>
    have hl0 : l = [] := by
      cases l with
      | nil => rfl
      | cons x r => obtain ⟨g, o, e, _⟩ := h5 0 _ (by simp [bs]; rfl); cases e
    subst hl0
    have hn := fun w c => Lib.run_eql_slice_nil_nil (P := Tryd.prog) w (t := 23) 0 c Tryd.underlying23
    go_enter Tryd.func63, Tryd.ntmps63
    go_wp2
    go_ret
    exact ⟨_, rfl, ⟨World.ownsRow_nil _ _ _ _, h4⟩, Below.refl _ _⟩
  | some a =>
    obtain ⟨W1, hW1⟩ : ∃ W1, W.alloc (.cells #[] 5) = W1 := ⟨_, rfl⟩
    have b1 : Below W.heap.size W W1 := by rw [← hW1]; exact (Below.refl _ W).alloc (Nat.le_refl _) _
    have r1 : W1.heap[W.heap.size]? = some (.cells #[] 5 (0, 0)) := by rw [← hW1]; exact heap_alloc_new _ _
    have o1 : W1.ownsRow W.heap.size 5 1 (.slice (some ⟨W.heap.size, 0, none⟩) 0 0) 0 [] := ⟨rfl, .inr ⟨W.heap.size, 0, #[], rfl, Nat.le_refl _, r1, Nat.le_refl _, by unfold maxLen; omega, rfl, rfl⟩⟩
    obtain ⟨v', X, hr, ho, hg, hat⟩ := run_apB1 W1 W.heap.size 0 _ [] l a cp o1 (fun j u hu => by
      obtain ⟨g, o, e1, e2, e3⟩ := h5 j u hu
      cases e1
      rw [Addr.add_mid]
      exact (World.cell?_of_block (w := W) (a := ⟨g, o + j, none⟩) (b1.block g e2)).trans e3) (by omega) (by have := b1.size; omega)
    rw [Nat.zero_add, List.nil_append] at ho
    have bX : Below W.heap.size W X := by
      refine ⟨hg.os.trans b1.os, hg.tape.trans b1.tape, hg.output.trans b1.output, Nat.le_trans b1.size hg.size, fun j hj => (hg.block j (by have := b1.size; omega) (fun e => by simp [Value.ownBlock] at e; omega)).trans (b1.block j hj)⟩
    have HF : Hid (Ob W.heap.size X v' l ∧ Below W.heap.size W X) := ⟨⟨ho, h4⟩, bX⟩
    rw [← hW1] at hr
    clear hW1 b1 r1 o1 ho hg hat bX h2 h3 h4 h5 hlim
    have hn := fun w => Lib.run_eql_slice_some_nil (P := Tryd.prog) w (t := 23) a l.length cp Tryd.underlying23
    go_enter Tryd.func63, Tryd.ntmps63
    go_wp2
    go_ret
    exact ⟨v', rfl, HF.out⟩
end Go.Proofs.YtfimaflglnemdaaDoor

/- JournalReplays: the head. -/
namespace Go.Proofs.YtfimaflglnemdaaDoor
open Go.RowKit
open JM
theorem okHead : hasR [⟨1, 1, 4611686018427387904, 8, 8⟩] = St.new.ok := by
  funext k n l
  simp only [hasR, List.any_cons, List.any_nil, Bool.or_false, Ru.ok, St.ok, St.new, if_true]
  rw [Bool.eq_iff_iff]
  simp only [Bool.and_eq_true, decide_eq_true_eq]
  omega
theorem okBase (s : St) (h1 : s.headed = true) (h2 : s.live = false) : hasR [⟨2, s.base.length, min s.base.length 8191, 0, 2097152⟩, ⟨3, s.base.length, s.base.length, 0, 0⟩] = s.ok := by
  funext k n l
  simp only [hasR, List.any_cons, List.any_nil, Bool.or_false, Ru.ok, St.ok, h1, h2, Bool.true_eq_false, if_false, if_true]
  rw [Bool.eq_iff_iff]
  simp only [Bool.and_eq_true, Bool.or_eq_true, decide_eq_true_eq]
  omega
theorem okBatch (s : St) (h1 : s.headed = true) (h2 : s.live = true) : hasR [⟨4, s.pending.length, min s.pending.length 8191, 0, 2097152⟩, ⟨5, s.first + s.batches.length, min (s.first + s.batches.length) 4611686018427387904, 4, 4⟩] = s.ok := by
  funext k n l
  simp only [hasR, List.any_cons, List.any_nil, Bool.or_false, Ru.ok, St.ok, h1, h2, Bool.true_eq_false, if_false]
  rw [Bool.eq_iff_iff]
  simp only [Bool.and_eq_true, Bool.or_eq_true, decide_eq_true_eq]
  omega
/-- How reading a part of a file ends. -/
def StepP {α : Type} (g : Nat) (W : World) (dv t0 t1 t2 t3 t4 t5 : Value) (X : Out α) (pos : Nat) (R : α → Ending → World → Prop) (e : Ending) (w' : World) : Prop :=
  But g W w' ∧ match X with
  | .bad => e = .panicked [{ v := brV true pos, recovered := false }] ∧ ∃ q : Nat, w'.heap[g]? = some (.cells (rdA dv q pos t0 t1 t2 t3 t4 t5) 130 (0, 0))
  | .torn => e = .panicked [{ v := brV false pos, recovered := false }] ∧ ∃ q : Nat, w'.heap[g]? = some (.cells (rdA dv q pos t0 t1 t2 t3 t4 t5) 130 (0, 0))
  | .got a => R a e w'
theorem wrap_id {n : Nat} (h : n ≤ 4611686018427387904) : IntKind.i64.wrap (n : Int) = (n : Int) := by
  rw [IntKind.wrap_i64]; omega
theorem range_row {w : World} {g : Nat} {c : Array Value} {t : Nat} (h : w.heap[g]? = some (.cells c t (0, 0))) : w.rangeAt g 0 c.toList := by
  have := World.rangeAt_of_block h 0 c.size
  rwa [show c.extract 0 (0 + c.size) = c by rw [Nat.zero_add]; simp] at this
theorem step_head {l : List Nat} {pos : Nat} {s : St} (hs : s.headed = false) : s.step crcN l pos = match recd crcN s.ok (l.drop pos) with
  | .bad => .bad
  | .torn => .torn
  | .got r => if 1 ≤ le r.body ∧ le r.body ≤ 4611686018427387904 then .got ({ s with headed := true, gen := r.number, first := le r.body }, pos + 22 + r.body.length) else .bad := by
  unfold St.step
  cases recd crcN s.ok (l.drop pos) with
  | bad => rfl
  | torn => rfl
  | got r =>
    simp only [St.take, hs, if_true]
    split
    · rename_i h; split at h
      · cases h
      · rename_i hh; rw [if_neg hh]
    · rename_i h; split at h
      · rename_i hh; rw [if_pos hh]; injection h with h; subst h; rfl
      · cases h
set_option maxRecDepth 100000 in
set_option maxHeartbeats 3200000 in
theorem head_any (W0 W : World) {g frm cD : Nat} {t0 t1 t2 t3 t4 t5 : Value} {oD : Option Addr} {l : List Nat}
    (hg : W.heap[g]? = some (.cells (rdA (.slice oD l.length cD) 0 frm t0 t1 t2 t3 t4 t5) 130 (0, 0))) (hD : Bl W0 (.slice oD l.length cD) l) (hlim : l.length ≤ 1000000000000) (hW0 : W0.heap.size ≤ g)
    (hag : ∀ j, j < W0.heap.size → W.heap[j]? = W0.heap[j]?) (hT : Tc W) (hTg : 0 < g) :
    Calls Tryd.prog 74 #[.pointer (some ⟨g, 0, none⟩)] W (StepP g W (.slice oD l.length cD) t0 t1 t2 t3 t4 t5 (St.new.step crcN l 0) 0 fun a e w' =>
      e = .returned (.tuple #[.int .i64 (a.1.gen : Int), .int .i64 (a.1.first : Int)]) ∧ w'.heap[g]? = some (.cells (rdA (.slice oD l.length cD) a.2 0 t0 t1 t2 t3 t4 t5) 130 (0, 0))) := by
  have gl : g < W.heap.size := (Array.getElem?_eq_some_iff.1 hg).1
  obtain ⟨V, hV⟩ : ∃ V, W.alloc (.cells #[.int .u8 1, .int .u64 1, .int .u64 4611686018427387904, .int .i64 8, .int .i64 8] 145) = V := ⟨_, rfl⟩
  have vg : V.heap[g]? = some (.cells (rdA (.slice oD l.length cD) 0 frm t0 t1 t2 t3 t4 t5) 130 (0, 0)) := by rw [← hV]; exact (heap_alloc_old _ _ (h := gl)).trans hg
  have vr : V.heap[W.heap.size]? = some (.cells (Ru.arr ⟨1, 1, 4611686018427387904, 8, 8⟩) 145 (0, 0)) := by rw [← hV]; exact heap_alloc_new _ _
  have vb : Below W.heap.size W V := by rw [← hV]; exact (Below.refl _ W).alloc (Nat.le_refl _) _
  have vs : W.heap.size < V.heap.size := by rw [← hV]; simp
  have C := record_any W0 V (rv := .slice (some ⟨W.heap.size, 0, none⟩) 1 1) vg hD (Nat.zero_le _) hlim hW0 (fun j hj => (vb.block j (by omega)).trans (hag j hj)) (hT.below vb (by omega)) hTg [⟨1, 1, 4611686018427387904, 8, 8⟩] (by simp) (fun w' hb => ⟨_, 0, 1, rfl, Nat.lt_of_lt_of_le vs hb.size, fun i u hu => by
    match i, hu with
    | 0, hu =>
      injection hu with hu
      subst hu
      exact range_row ((hb.block _ vs (by omega)).trans vr)⟩)
  rw [List.drop_zero, okHead] at C
  have hS := step_head (l := l) (pos := 0) (s := St.new) rfl
  rw [List.drop_zero] at hS
  have HF := mkHid (And.intro hag (And.intro hD hW0))
  clear hg vg vr hag hD hT
  replace hS := mkHid hS
  go_enter Tryd.func74, Tryd.ntmps74
  go_wp2_with fail
  refine C.mono ?_
  rintro e w ⟨hb, hx⟩
  have hb2 : But g W w := ⟨hb.os.trans vb.os, hb.tape.trans vb.tape, hb.output.trans vb.output, Nat.le_trans vb.size hb.size, fun k hk hn => (hb.block k (by omega) hn).trans (vb.block k hk)⟩
  cases hR : recd crcN St.new.ok l with
  | bad =>
    rw [hR] at hx
    obtain ⟨rfl, hx⟩ := hx
    have := hS.out
    rw [hR] at this
    exact ⟨rfl, hb2, by rw [this]; exact ⟨rfl, _, hx⟩⟩
  | torn =>
    rw [hR] at hx
    obtain ⟨rfl, hx⟩ := hx
    have := hS.out
    rw [hR] at this
    exact ⟨rfl, hb2, by rw [this]; exact ⟨rfl, _, hx⟩⟩
  | got r =>
    rw [hR] at hx
    obtain ⟨⟨oB, cB, rfl, hB⟩, hx⟩ := hx
    have hS2 := hS.out
    rw [hR] at hS2
    obtain ⟨q1, q2, q3, q4, q5, q6⟩ := recd_got hR
    have hok : r.number ≤ 4611686018427387904 ∧ r.body.length = 8 := by
      simp only [St.ok, St.new, if_true, decide_eq_true_eq] at q6
      omega
    have hB2 : Bl w (.slice oB r.body.length cB) r.body := hB.keep (by have := hb2.size; omega) (fun j hj => (hb2.block j (by omega) (by omega)).trans (HF.out.1 j hj))
    clear q1 q2 q3 q4 q5 q6 hB
    obtain ⟨Y, hY⟩ : ∃ Y, w.alloc (.cells #[.int .u8 (r.kind : Int), .int .u64 (r.number : Int), .int .i64 (r.body.length : Int), .slice oB r.body.length cB] 142) = Y := ⟨_, rfl⟩
    have yb : Below w.heap.size w Y := by rw [← hY]; exact (Below.refl _ w).alloc (Nat.le_refl _) _
    have gw : g < w.heap.size := (Array.getElem?_eq_some_iff.1 hx).1
    have yg := (yb.block g gw).trans hx
    have yr : Y.heap[w.heap.size]? = some (.cells (rcA r.kind r.number r.body.length (.slice oB r.body.length cB)) 142 (0, 0)) := by rw [← hY]; exact heap_alloc_new _ _
    have C2 := read_any _ _ Y (hB2.below yb) (by omega)
    have y2 : Y.cell? ⟨g, 2, none⟩ = some (.int .i64 ((0 : Nat) : Int)) := (cell_of_row _ _ _ _ _ _ yg).trans rfl
    have y1 : Y.cell? ⟨w.heap.size, 1, none⟩ = some (.int .u64 (r.number : Int)) := (cell_of_row _ _ _ _ _ _ yr).trans rfl
    have y3 : Y.cell? ⟨w.heap.size, 3, none⟩ = some (.slice oB r.body.length cB) := (cell_of_row _ _ _ _ _ _ yr).trans rfl
    have CS := fun t => spoilt_any t g 0 Y y2
    have yb2 := hb2.below yb
    have HY := mkHid (And.intro yg yb2)
    have w1 := wrap_id hok.1
    replace hok := mkHid hok
    clear yg yr hB2 hb2 hb vb y2 hR yb
    unfold rcA
    go_wp2_with fail
    refine C2.mono ?_
    rintro e w2 ⟨rfl, rfl⟩
    dsimp only
    obtain ⟨n, hn⟩ : ∃ n, le r.body = n := ⟨_, rfl⟩
    rw [hn] at hS2 ⊢
    clear C2 y3
    by_cases hc : 1 ≤ n ∧ n ≤ 4611686018427387904
    · rw [if_pos hc] at hS2
      replace hS2 := mkHid hS2
      have c1 : ¬ (n : Int) < 1 := by omega
      have c2 : ¬ (4611686018427387904 : Int) < (n : Int) := by omega
      have w2 := wrap_id hc.2
      go_wp2_with fail
      refine (CS _).mono ?_
      rintro e w3 ⟨rfl, rfl⟩
      simp only [brE, if_false, Bool.false_eq_true]
      go_wp2_with fail
      go_ret2
      exact ⟨HY.out.2, by rw [hS2.out]; exact ⟨rfl, HY.out.1⟩⟩
    · rw [if_neg hc] at hS2
      replace hS2 := mkHid hS2
      by_cases c1 : n < 1
      · have c2 : (n : Int) < 1 := by omega
        go_wp2_with fail
        refine (CS _).mono ?_
        rintro e w3 ⟨rfl, rfl⟩
        exact ⟨rfl, HY.out.2, by rw [hS2.out]; exact ⟨rfl, _, HY.out.1⟩⟩
      · have c2 : ¬ (n : Int) < 1 := by omega
        have c3 : (4611686018427387904 : Int) < (n : Int) := by omega
        go_wp2_with fail
        refine (CS _).mono ?_
        rintro e w3 ⟨rfl, rfl⟩
        exact ⟨rfl, HY.out.2, by rw [hS2.out]; exact ⟨rfl, _, HY.out.1⟩⟩
end Go.Proofs.YtfimaflglnemdaaDoor

/- JournalReplays: the base. -/
namespace Go.Proofs.YtfimaflglnemdaaDoor
open Go.RowKit
open JM
/-- A step among the base's records. -/
theorem step_base {l : List Nat} {pos : Nat} {s : St} (hs : s.headed = true) (h2 : s.live = false) : s.step crcN l pos = match recd crcN s.ok (l.drop pos) with
  | .bad => .bad
  | .torn => .torn
  | .got r => .got (if r.kind = 2 then { s with base := s.base ++ [r.body] } else { s with live := true, good := pos + 22 + r.body.length }, pos + 22 + r.body.length) := by
  unfold St.step
  cases recd crcN s.ok (l.drop pos) with
  | bad => rfl
  | torn => rfl
  | got r =>
    simp only [St.take, hs, h2, if_true, Bool.true_eq_false, if_false]
    split
    · rename_i h; split at h <;> cases h
    · rename_i h
      split at h <;> (rename_i hk; injection h with h; subst h; simp only [hk, if_true, if_false])
theorem rul_two {w : World} {b cap : Nat} {u1 u2 : Ru} {t : Nat} (h : w.heap[b]? = some (.cells (u1.arr ++ u2.arr) t (0, 0))) : Rul w (.slice (some ⟨b, 0, none⟩) 2 cap) [u1, u2] := by
  refine ⟨b, 0, cap, rfl, (Array.getElem?_eq_some_iff.1 h).1, fun i u hu => ?_⟩
  match i, hu with
  | 0, hu =>
    injection hu with hu
    subst hu
    have := World.rangeAt_of_block h 0 5
    rwa [show (u1.arr ++ u2.arr).extract 0 (0 + 5) = u1.arr by simp [Ru.arr]] at this
  | 1, hu =>
    injection hu with hu
    subst hu
    have := World.rangeAt_of_block h 5 5
    rwa [show (u1.arr ++ u2.arr).extract 5 (5 + 5) = u2.arr by simp [Ru.arr]] at this
/-- How the base ends: what the file says besides is what it says from there on. -/
def BaseP (g : Nat) (W : World) (l : List Nat) (dv t0 t1 t2 t3 t4 t5 : Value) (s : St) (pos : Nat) (e : Ending) (w' : World) : Prop :=
  But g W w' ∧
  ((∃ (p : Nat) (s' : St), e = .panicked [{ v := brV true p, recovered := false }] ∧ from_ crcN l s pos = (s', some p) ∧ s'.live = false ∧ ∃ q : Nat, w'.heap[g]? = some (.cells (rdA dv q p t0 t1 t2 t3 t4 t5) 130 (0, 0))) ∨
   (∃ (p : Nat) (s' : St), e = .panicked [{ v := brV false p, recovered := false }] ∧ from_ crcN l s pos = (s', none) ∧ s'.live = false ∧ ∃ q : Nat, w'.heap[g]? = some (.cells (rdA dv q p t0 t1 t2 t3 t4 t5) 130 (0, 0))) ∨
   (∃ (p q : Nat) (bl : List (List Nat)) (a : Option Addr) (c : Nat), e = .returned (.slice a bl.length c) ∧ from_ crcN l s pos = from_ crcN l { s with base := bl, live := true, good := q } q ∧ Ll W.heap.size w' (.slice a bl.length c) bl ∧ q ≤ l.length ∧ w'.heap[g]? = some (.cells (rdA dv q p t0 t1 t2 t3 t4 t5) 130 (0, 0))))
attribute [local go_sem ↓] toApL in
set_option maxRecDepth 100000 in
set_option maxHeartbeats 3200000 in
theorem base_any (W0 W : World) {g pos frm cD : Nat} {t0 t1 t2 t3 t4 t5 : Value} {oD : Option Addr} {l : List Nat} (s : St) (hs : s.headed = true) (hs2 : s.live = false) (hs3 : s.base = [])
    (hg : W.heap[g]? = some (.cells (rdA (.slice oD l.length cD) pos frm t0 t1 t2 t3 t4 t5) 130 (0, 0))) (hD : Bl W0 (.slice oD l.length cD) l) (hp : pos ≤ l.length) (hlim : l.length ≤ 1000000000000) (hW0 : W0.heap.size ≤ g)
    (hag : ∀ j, j < W0.heap.size → W.heap[j]? = W0.heap[j]?) (hT : Tc W) (hTg : 0 < g) :
    Calls Tryd.prog 75 #[.pointer (some ⟨g, 0, none⟩)] W (BaseP g W l (.slice oD l.length cD) t0 t1 t2 t3 t4 t5 s pos) := by
  have gl : g < W.heap.size := (Array.getElem?_eq_some_iff.1 hg).1
  have HF := mkHid (And.intro hag (And.intro hD (And.intro hT (And.intro hg hs3))))
  clear hag hD hT hg hs3
  go_enter Tryd.func75, Tryd.ntmps75
  go_wp2_with fail
  go_loopw [3] (fun ov wr => ∃ (bl : List (List Nat)) (a : Option Addr) (c q p : Nat), ov = .slice a bl.length c ∧ Hid (bl.length ≤ 8192 ∧ q ≤ l.length ∧ pos + bl.length ≤ q ∧ Ll W.heap.size wr ov bl ∧ But g W wr ∧ wr.heap[g]? = some (.cells (rdA (.slice oD l.length cD) q p t0 t1 t2 t3 t4 t5) 130 (0, 0)) ∧ from_ crcN l s pos = from_ crcN l { s with base := bl } q)) (fun ov _ => match ov with | .slice _ n _ => 8193 - n | _ => 0)
  case atStart =>
    refine ⟨[], none, 0, pos, frm, rfl, ?_, hp, by simp, Ll.nil _ _, But.refl _ _, HF.out.2.2.2.1, ?_⟩
    · simp
    · rw [← HF.out.2.2.2.2]
  case round =>
    obtain ⟨bl, a, c, q, p, rfl, HI⟩ := hrel
    have hn : bl.length ≤ 1000000 := by have := HI.out.1; omega
    have gr : g < wr.heap.size := (Array.getElem?_eq_some_iff.1 HI.out.2.2.2.2.2.1).1
    have C1 := fun W => bodyRule_any 2 bl.length hn W
    have w1 : IntKind.u64.wrap (bl.length : Int) = (bl.length : Int) := by rw [IntKind.wrap_u64]; omega
    replace hn := mkHid hn
    go_wp2_with fail
    refine (C1 _).mono ?_
    rintro e x1 ⟨rfl, hb1, -⟩
    clear C1
    simp only [Ru.val, Ru.arr]
    obtain ⟨V, hV⟩ : ∃ V, x1.alloc (.cells #[.int .u8 2, .int .u64 (bl.length : Int), .int .u64 ((min bl.length 8191 : Nat) : Int), .int .i64 0, .int .i64 2097152, .int .u8 3, .int .u64 (bl.length : Int), .int .u64 (bl.length : Int), .int .i64 0, .int .i64 0] 145) = V := ⟨_, rfl⟩
    have vr : V.heap[x1.heap.size]? = some (.cells (Ru.arr ⟨2, bl.length, min bl.length 8191, 0, 2097152⟩ ++ Ru.arr ⟨3, bl.length, bl.length, 0, 0⟩) 145 (0, 0)) := by rw [← hV]; exact heap_alloc_new _ _
    have vb : Below wr.heap.size wr V := by rw [← hV]; exact hb1.alloc hb1.size _
    have vs : x1.heap.size < V.heap.size := by rw [← hV]; simp
    have hx1 : wr.heap.size ≤ x1.heap.size := hb1.size
    have vB : But g W V := HI.out.2.2.2.2.1.below vb
    have C := record_any W0 V (rv := .slice (some ⟨x1.heap.size, 0, none⟩) 2 2) ((vb.block g gr).trans HI.out.2.2.2.2.2.1) HF.out.2.1 HI.out.2.1 hlim hW0 (fun j hj => (vB.block j (by omega) (by omega)).trans (HF.out.1 j hj)) (HF.out.2.2.1.keep vB.size (vB.block _ (by omega) (by omega))) hTg [⟨2, bl.length, min bl.length 8191, 0, 2097152⟩, ⟨3, bl.length, bl.length, 0, 0⟩] (by simp) (fun w' hb => rul_two ((hb.block _ vs (by omega)).trans vr))
    rw [okBase { s with base := bl } hs hs2] at C
    have HS := mkHid (step_base (l := l) (pos := q) (s := { s with base := bl }) hs hs2)
    clear vr hb1
    go_wp2_with fail
    refine C.mono ?_
    rintro e w ⟨hb, hx⟩
    clear C
    have hb2 : But g W w := vB.trans hb
    cases hR : recd crcN { s with base := bl }.ok (l.drop q) with
    | bad =>
      rw [hR] at hx
      obtain ⟨rfl, hx⟩ := hx
      have := HS.out
      rw [hR] at this
      exact ⟨rfl, hb2, .inl ⟨q, _, rfl, HI.out.2.2.2.2.2.2.trans (from_bad (step_bad_lt this) this), hs2, _, hx⟩⟩
    | torn =>
      rw [hR] at hx
      obtain ⟨rfl, hx⟩ := hx
      have := HS.out
      rw [hR] at this
      exact ⟨rfl, hb2, .inr (.inl ⟨q, _, rfl, HI.out.2.2.2.2.2.2.trans (from_torn this), hs2, _, hx⟩)⟩
    | got r =>
      rw [hR] at hx
      obtain ⟨⟨oB, cB, rfl, hB⟩, hx⟩ := hx
      have hS2 := HS.out
      rw [hR] at hS2
      obtain ⟨q1, q2, q3, q4, q5, q6⟩ := recd_got hR
      rw [List.length_drop] at q1
      have hok : (r.kind = 2 ∧ bl.length < 8192) ∨ r.kind = 3 := by
        simp only [St.ok, hs, hs2, Bool.true_eq_false, if_false, if_true, Bool.or_eq_true, decide_eq_true_eq] at q6
        omega
      have hB2 : Bl w (.slice oB r.body.length cB) r.body := hB.keep (by have := hb2.size; omega) (fun j hj => (hb2.block j (by omega) (by omega)).trans (HF.out.1 j hj))
      have hLl : Ll W.heap.size w (.slice a bl.length c) bl := (HI.out.2.2.2.1.keep (stay_below vb)).keep (stay_but hb (by omega))
      have hsw : W.heap.size ≤ w.heap.size := hb2.size
      have hst := from_step hS2
      have hq1 : q + 22 + r.body.length ≤ l.length := by omega
      have hq2 := HI.out.2.2.1
      have hfr := HI.out.2.2.2.2.2.2
      clear q1 q2 q3 q4 q5 q6 hB HS hS2 hR vb vB hb
      obtain ⟨Y, hY⟩ : ∃ Y, w.alloc (.cells #[.int .u8 (r.kind : Int), .int .u64 (r.number : Int), .int .i64 (r.body.length : Int), .slice oB r.body.length cB] 142) = Y := ⟨_, rfl⟩
      have yb : Below w.heap.size w Y := by rw [← hY]; exact (Below.refl _ w).alloc (Nat.le_refl _) _
      have gw : g < w.heap.size := (Array.getElem?_eq_some_iff.1 hx).1
      have yg := (yb.block g gw).trans hx
      have yr : Y.heap[w.heap.size]? = some (.cells (rcA r.kind r.number r.body.length (.slice oB r.body.length cB)) 142 (0, 0)) := by rw [← hY]; exact heap_alloc_new _ _
      have y0 : Y.cell? ⟨w.heap.size, 0, none⟩ = some (.int .u8 (r.kind : Int)) := (cell_of_row _ _ _ _ _ _ yr).trans rfl
      have y3 : Y.cell? ⟨w.heap.size, 3, none⟩ = some (.slice oB r.body.length cB) := (cell_of_row _ _ _ _ _ _ yr).trans rfl
      have yb2 := hb2.below yb
      have yl := hLl.keep (stay_below yb)
      rcases hok with ⟨hk, hbl⟩ | hk
      · rw [hk, if_pos rfl] at hst
        have yB := hB2.below yb
        have CL := clone_any _ _ Y yB (by unfold LIM; omega)
        have HY := mkHid (And.intro yg (And.intro yb2 (And.intro yl (And.intro hst (And.intro hfr (And.intro hq1 hbl))))))
        clear yg yr hB2 hb2 yB yl hst hfr hbl
        unfold rcA
        rw [hk, show ((2 : Nat) : Int) = 2 from rfl] at y0 hY
        rw [hk]
        go_wp2_with fail
        refine CL.mono ?_
        rintro e x2 ⟨v2, rfl, hO, hb3⟩
        clear CL
        obtain ⟨o2, c2, rfl⟩ := hO.sl
        have hsY : w.heap.size ≤ Y.heap.size := yb.size
        have xb := HY.out.2.1.below hb3
        have xl := HY.out.2.2.1.keep (stay_below hb3)
        obtain ⟨a3, c3, x3, hr, hl3, hG⟩ := xl.add (by have := hb3.size; omega) (hO.mono (by omega)) (by have := HY.out.2.2.2.2.2.2; omega)
        have x3g := (hG.low g (by omega) (by have := hb3.size; omega)).trans ((hb3.block g (by omega)).trans HY.out.1)
        have x3b : But g W x3 := ⟨hG.os.trans xb.os, hG.tape.trans xb.tape, hG.output.trans xb.output, Nat.le_trans xb.size hG.size, fun k hk hn => (hG.low k hk (by have := xb.size; omega)).trans (xb.block k hk hn)⟩
        have HZ := mkHid (And.intro hl3 (And.intro x3g x3b))
        clear hl3 x3g x3b xl xb hO hb3 y0 y3
        go_wp2_with fail
        refine ⟨⟨bl ++ [r.body], a3, c3, q + 22 + r.body.length, q, by simp, ?_, HY.out.2.2.2.2.2.1, ?_, HZ.out.1, HZ.out.2.2, HZ.out.2.1, HY.out.2.2.2.2.1.trans HY.out.2.2.2.1⟩, ?_⟩
        · have := HY.out.2.2.2.2.2.2; simp; omega
        · simp; omega
        · have := HY.out.2.2.2.2.2.2; dsimp only; omega
      · rw [hk, if_neg (by decide)] at hst
        have HY := mkHid (And.intro yg (And.intro yb2 (And.intro yl (And.intro hst (And.intro hfr hq1)))))
        clear yg yr hB2 hb2 yl hst hfr
        unfold rcA
        rw [hk, show ((3 : Nat) : Int) = 3 from rfl] at y0 hY
        rw [hk]
        go_wp2_with fail
        go_ret
        exact ⟨HY.out.2.1, .inr (.inr ⟨q, q + 22 + r.body.length, bl, a, c, rfl, HY.out.2.2.2.2.1.trans HY.out.2.2.2.1, HY.out.2.2.1, HY.out.2.2.2.2.2, HY.out.1⟩)⟩
end Go.Proofs.YtfimaflglnemdaaDoor
