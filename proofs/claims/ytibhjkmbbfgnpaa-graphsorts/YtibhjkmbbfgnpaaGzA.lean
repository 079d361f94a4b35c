/- Graphs: a search that goes deep: what lies while it goes. -/
import Derived.Test.YtibhjkmbbfgnpaaJoA
import Derived.Test.YtibhjkmbbfgnpaaGxD
namespace Go.Proofs.Ytibhjkmbbfgnpaa
open Go.RowKit GM
set_option maxRecDepth 20000
/-- A vertex under way: the rest of its needs, and that as a value. -/
abbrev Tr : Type := Nat × List Nat × Value
def ck (T : List Tr) : List Value := T.flatMap fun t => [.int .i64 (t.1 : Int), t.2.2]
def tS (T : List Tr) : List (Nat × List Nat) := T.map fun t => (t.1, t.2.1)
theorem ck_app (A C : List Tr) : ck (A ++ C) = ck A ++ ck C := by simp [ck]
theorem ck_len (T : List Tr) : (ck T).length = T.length * 2 := by
  induction T with
  | nil => rfl
  | cons t T ih =>
    have : ck (t :: T) = .int .i64 (t.1 : Int) :: t.2.2 :: ck T := rfl
    rw [this, List.length_cons, List.length_cons, ih, List.length_cons]
    omega
theorem ck_one (t : Tr) : ck [t] = [.int .i64 (t.1 : Int), t.2.2] := rfl
theorem tS_app (A C : List Tr) : tS (A ++ C) = tS A ++ tS C := by simp [tS]
theorem tS_len (T : List Tr) : (tS T).length = T.length := by simp [tS]
set_option maxRecDepth 100000 in
theorem infoV : (Try.prog.info? 140).map (fun i => (i.zero, i.size, i.bytes)) = some (some (.agg #[.int .i64 0, .slice none 0 0]), 2, 32) := by kernel_rfl
def apV (ty : Nat) (vs : Array Value) : Sem Value := Builtin.append_ #[141, 141] ty vs
theorem toApV (ty : Nat) (vs : Array Value) : Builtin.append_ #[141, 141] ty vs = apV ty vs := rfl
theorem own_setC {w : World} {B e s n gs idx c : Nat} {xs : List Value} (h : w.ownsRow B e s (.slice (some ⟨gs, 0, none⟩) n c) n xs) (u : Value) : (w.setCell ⟨gs, idx, none⟩ u).ownsRow B e s (.slice (some ⟨gs, 0, none⟩) n c) n (xs.set idx u) := by
  obtain ⟨h0, h1⟩ := h
  rcases h1 with ⟨h1, -⟩ | ⟨g, cap, cur, e1, hB, hg, hnc, hcm, hcs, htk⟩
  · cases h1
  · injection e1 with e1 e2 e3
    injection e1 with e1
    injection e1 with e1
    subst e1 e3
    exact ⟨by simpa using h0, .inr ⟨gs, c, cur.setIfInBounds idx u, rfl, hB, heap_setCell_same _ _ _ _ _ _ hg, hnc, hcm, by simpa using hcs, by rw [Array.toList_setIfInBounds, List.take_set, htk]⟩⟩
theorem own_cut {w : World} {B e s n m gs c : Nat} {xs : List Value} (h : w.ownsRow B e s (.slice (some ⟨gs, 0, none⟩) n c) n xs) (hm : m ≤ n) : w.ownsRow B e s (.slice (some ⟨gs, 0, none⟩) m c) m (xs.take (m * s)) := by
  obtain ⟨h0, h1⟩ := h
  have hms : m * s ≤ n * s := Nat.mul_le_mul_right s hm
  rcases h1 with ⟨h1, -⟩ | ⟨g, cap, cur, e1, hB, hg, hnc, hcm, hcs, htk⟩
  · cases h1
  · injection e1 with e1 e2 e3
    injection e1 with e1
    injection e1 with e1
    subst e1 e3
    exact ⟨by rw [List.length_take, h0]; omega, .inr ⟨gs, c, cur, rfl, hB, hg, by omega, hcm, hcs, by rw [← htk, List.take_take]; congr 1; omega⟩⟩
/-- The place of the last one. -/
theorem own_top {w : World} {B ns : Nat} {sv : Value} {A : List Tr} {t : Tr} (h : w.ownsRow B 140 2 sv ns (ck (A ++ [t]))) : ns = A.length + 1 ∧ ∃ gs c, sv = .slice (some ⟨gs, 0, none⟩) ns c ∧ B ≤ gs ∧ ns ≤ c ∧ w.cell? ⟨gs, A.length * 2, none⟩ = some (.int .i64 (t.1 : Int)) ∧ w.cell? ⟨gs, A.length * 2 + 1, none⟩ = some t.2.2 ∧ (∀ k, w.frozen? ⟨gs, k, none⟩ = false) ∧ ∃ cur, w.heap[gs]? = some (.cells cur 140 (0, 0)) := by
  obtain ⟨h0, h1⟩ := h
  rw [ck_len, List.length_append, List.length_singleton] at h0
  have hns : ns = A.length + 1 := by omega
  rcases h1 with ⟨-, h1⟩ | ⟨g, cap, cur, e1, hB, hg, hnc, hcm, hcs, htk⟩
  · omega
  · have at' : ∀ j u, (ck (A ++ [t]))[j]? = some u → w.cell? ⟨g, j, none⟩ = some u := fun j u hu => by
      rw [cell_of_row _ _ _ _ _ _ hg]
      have hj := (List.getElem?_eq_some_iff.1 hu).1
      rw [ck_len] at hj
      rw [← htk, List.getElem?_take] at hu
      split at hu
      · rw [← Array.getElem?_toList]; exact hu
      · cases hu
    refine ⟨hns, g, cap, e1, hB, hnc, at' _ _ ?_, at' _ _ ?_, fun k => frozen_of_row _ _ _ _ _ hg, cur, hg⟩
    · rw [ck_app, ck_one, List.getElem?_append_right (by rw [ck_len]; omega), ck_len]
      simp
    · rw [ck_app, ck_one, List.getElem?_append_right (by rw [ck_len]; omega), ck_len]
      simp
theorem run_apV (w : World) (base n ty : Nat) (v : Value) (T : List Tr) (x : Nat) (r : List Nat) (o : Option Addr) (m c : Nat) (hown : w.ownsRow base 140 2 v n (ck T)) (hb : n + 1 ≤ 1000000000) (hbase : base ≤ w.heap.size) :
    ∃ v' w', (apV ty #[v, .slice (some ⟨w.heap.size, 0, none⟩) 1 1]).run Try.prog (w.alloc (.cells #[.int .i64 (x : Int), .slice o m c] 140)) = .ok v' w' ∧ w'.ownsRow base 140 2 v' (n + 1) (ck (T ++ [(x, r, .slice o m c)])) ∧ (w.alloc (.cells #[.int .i64 (x : Int), .slice o m c] 140)).grownBy w' v.ownBlock := by
  obtain ⟨i0, hi0, hz0, hz1, hz2⟩ := info_parts infoV
  obtain ⟨v', w', hr, ho, hg, _⟩ := run_append_own (P := Try.prog) (w.alloc (.cells #[.int .i64 (x : Int), .slice o m c] 140)) base 141 ty 140 i0 _ 2 32 Try.underlying141 hi0 hz0 hz1 hz2 rfl (by omega) v n _ (hown.alloc _) ⟨w.heap.size, 0, none⟩ 1 1 [.int .i64 (x : Int), .slice o m c] rfl
    (World.news_of_block (cs := #[.int .i64 (x : Int), .slice o m c]) (t := 140) (fr := (0, 0)) (heap_alloc_new w _)) (fun u hu => by
      rcases List.mem_cons.1 hu with q | q
      · subst q; rfl
      · have q := List.mem_singleton.1 q
        subst q; rfl) (by unfold maxLen; omega) (by omega) (by simp; omega)
  refine ⟨v', w', hr, ?_, hg⟩
  rw [ck_app, ck_one]
  exact ho
def slV (v : Value) (lo hi mx : Option Value) : Sem Value := Instr.slice 141 v lo hi mx
theorem toSlV (v : Value) (lo hi mx : Option Value) : Instr.slice 141 v lo hi mx = slV v lo hi mx := rfl
theorem elemV : Try.prog.elem 141 = 140 := by kernel_rfl
theorem uV : Try.prog.underlying 141 = some (.slice (Try.prog.elem 141)) := by rw [elemV]; exact Try.underlying141
theorem run_cutV (w : World) (g n c k : Nat) (hk : k ≤ c) : (slV (.slice (some ⟨g, 0, none⟩) n c) none (some (.int .i64 (k : Int))) none).run Try.prog w = .ok (.slice (some ⟨g, 0, none⟩) k c) w := by
  have := run_slice_h (P := Try.prog) w 141 (some ⟨g, 0, none⟩) n c uV .i64 (k : Int) (by omega) (by omega)
  obtain ⟨i, hi, _, hs, _⟩ := info_parts infoV
  have hz : (sizeOf 140).run Try.prog w = .ok 2 w := by simp [sizeOf, typeInfo, hi, hs]
  unfold slV
  rw [this, elemV, hz]
  simp [Result.andThen, sliced]
  intro _
  rfl
/-- A slice of numbers with its room. -/
structure Ilc (g : Nat) (v : Value) (l : List Nat) (w : World) : Prop where
  il : Il g v l w
  cp : ∃ o c, v = .slice o l.length c ∧ l.length ≤ c
/-- What lies while the search goes. -/
structure Em (W : World) (B0 b : Nat) (ev0 : Value) (E0 : List Nat) (gv : Nat → Nat) (T : List Tr) (L M : List Nat) (ne : Nat) (ev : Value) (ns : Nat) (sv : Value) (w : World) : Prop where
  frm : Rm.Frm (fun k => k = b ∨ ev0.ownBlock = some k) W w
  en : w.ownsRow B0 3 1 ev ne (ik (E0 ++ L)).toList
  enb : ∀ k, ev.ownBlock = some k → ev0.ownBlock = some k ∨ W.heap.size ≤ k
  mks : Mks w b M
  st : w.ownsRow W.heap.size 140 2 sv ns (ck T)
  il : ∀ t, t ∈ T → Ilc (gv t.1) t.2.2 t.2.1 W
section
variable {W w w2 : World} {B0 b ne ns s x : Nat} {ev0 ev sv : Value} {E0 L M r : List Nat} {gv : Nat → Nat} {T A : List Tr} {rv : Value}
theorem own_tyV {w : World} {B e s n k : Nat} {v : Value} {xs : List Value} (h : w.ownsRow B e s v n xs) (hk : v.ownBlock = some k) : ∃ c, w.heap[k]? = some (.cells c e (0, 0)) := by
  rcases h.2 with ⟨h1, _⟩ | ⟨g, cap, cur, h1, h2, h3, _⟩
  · rw [h1] at hk; cases hk
  · rw [h1] at hk; simp [Value.ownBlock] at hk; subst hk; exact ⟨cur, h3⟩
/-- The rest of the last one's needs is written over. -/
theorem Em.set (h : Em W B0 b ev0 E0 gv (A ++ [(s, r, rv)]) L M ne ev ns sv w) {r' : List Nat} {rv' : Value} {gs c : Nat} (hsv : sv = .slice (some ⟨gs, 0, none⟩) ns c) (hb : b < W.heap.size) (hI : Ilc (gv s) rv' r' W) : Em W B0 b ev0 E0 gv (A ++ [(s, r', rv')]) L M ne ev ns sv (w.setCell ⟨gs, A.length * 2 + 1, none⟩ rv') := by
  obtain ⟨hns, gs', c', e, hgW, -, -, -, -, cur, hcur⟩ := own_top h.st
  rw [hsv] at e
  injection e with e1 e2 e3
  injection e1 with e1
  injection e1 with e1
  subst e1
  have os : Rm.Frm (fun k => W.heap.size ≤ k) w (w.setCell ⟨gs, A.length * 2 + 1, none⟩ rv') := by
    rw [setCell_eq_setRow w gs (A.length * 2 + 1) _ _ _ _ hcur]
    exact ⟨rfl, rfl, rfl, by simp [World.setRow], fun k hk hx => setRow_other w gs k _ (fun e => hx (by rw [e]; exact hgW))⟩
  have oth : ∀ k, k ≠ gs → (w.setCell ⟨gs, A.length * 2 + 1, none⟩ rv').heap[k]? = w.heap[k]? := fun k hk => heap_setCell_other w ⟨gs, A.length * 2 + 1, none⟩ k _ hk
  refine ⟨⟨os.os.trans h.frm.os, os.tape.trans h.frm.tape, os.output.trans h.frm.output, Nat.le_trans h.frm.size os.size, fun k hk hx => (os.blk k (Nat.lt_of_lt_of_le hk h.frm.size) (by omega)).trans (h.frm.blk k hk hx)⟩, own_keep2 h.en fun k hk => oth k fun e => ?_, h.enb, h.mks.keep (oth b (by omega)), ?_, fun t ht => ?_⟩
  · obtain ⟨C, hC⟩ := own_tyV h.en hk
    rw [e, hcur] at hC
    injection hC with hC
    injection hC with _ hC
    cases hC
  · have q := own_setC (idx := A.length * 2 + 1) (hsv ▸ h.st) rv'
    rw [← hsv] at q
    have e : (ck (A ++ [(s, r, rv)])).set (A.length * 2 + 1) rv' = ck (A ++ [(s, r', rv')]) := by
      rw [ck_app, ck_app, List.set_append_right _ _ (by rw [ck_len]; omega), ck_len, Nat.add_sub_cancel_left]
      rfl
    rw [e] at q
    exact q
  · rcases List.mem_append.1 ht with q | q
    · exact h.il t (List.mem_append.2 (.inl q))
    · rw [List.mem_singleton.1 q]
      exact hI
/-- Marks. -/
theorem Em.mark (h : Em W B0 b ev0 E0 gv T L M ne ev ns sv w) {M' : List Nat} (hm : Mks w2 b M') (hf : Rm.Frm (fun k => k = b) w w2) : Em W B0 b ev0 E0 gv T L M' ne ev ns sv w2 := by
  have nb : ∀ {e s n : Nat} {v : Value} {xs : List Value} {B : Nat}, w.ownsRow B e s v n xs → ∀ k, v.ownBlock = some k → k < w.heap.size ∧ k ≠ b := fun {e s n v xs B} hr k hk => by
    obtain ⟨C, hC⟩ := own_tyV hr hk
    exact ⟨(Array.getElem?_eq_some_iff.1 hC).1, fun q => h.mks.row hC q.symm⟩
  exact ⟨⟨hf.os.trans h.frm.os, hf.tape.trans h.frm.tape, hf.output.trans h.frm.output, Nat.le_trans h.frm.size hf.size, fun k hk hx => (hf.blk k (Nat.lt_of_lt_of_le hk h.frm.size) (fun e => hx (.inl e))).trans (h.frm.blk k hk hx)⟩, own_keep2 h.en fun k hk => hf.blk k (nb h.en k hk).1 (nb h.en k hk).2, h.enb, hm, own_keep2 h.st fun k hk => hf.blk k (nb h.st k hk).1 (nb h.st k hk).2, h.il⟩
/-- One more is under way. -/
theorem Em.push (h : Em W B0 b ev0 E0 gv T L M ne ev ns sv w) (hb : b < W.heap.size) (hn : ns + 1 ≤ 1000000000) {o : Option Addr} {m c : Nat} (hI : Ilc (gv x) (.slice o m c) r W) :
    ∃ os cs w', (apV 141 #[sv, .slice (some ⟨w.heap.size, 0, none⟩) 1 1]).run Try.prog (w.alloc (.cells #[.int .i64 (x : Int), .slice o m c] 140)) = .ok (.slice os (ns + 1) cs) w' ∧ Em W B0 b ev0 E0 gv (T ++ [(x, r, .slice o m c)]) L M ne ev (ns + 1) (.slice os (ns + 1) cs) w' := by
  obtain ⟨v', w', r1, r2, r3⟩ := run_apV w W.heap.size ns 141 sv T x r o m c h.st hn h.frm.size
  obtain ⟨os, cs, rfl⟩ := own_size r2
  have old : ∀ k, k < w.heap.size → ¬ sv.ownBlock = some k → w'.heap[k]? = w.heap[k]? := fun k hk hx => grown_oldR r3 k hk hx
  have hz : w.heap.size ≤ w'.heap.size := by have := r3.size; simp at this; omega
  have ns' : ∀ k, k < W.heap.size → ¬ sv.ownBlock = some k := fun k hk e => by
    have := (h.st.lt k e).1
    omega
  refine ⟨os, cs, w', r1, ⟨r3.os.trans h.frm.os, r3.tape.trans h.frm.tape, r3.output.trans h.frm.output, Nat.le_trans h.frm.size hz, fun k hk hx => (old k (Nat.lt_of_lt_of_le hk h.frm.size) (ns' k hk)).trans (h.frm.blk k hk hx)⟩, own_keep2 h.en fun k hk => ?_, h.enb, h.mks.keep (old b h.mks.lt (ns' b hb)), r2, fun t ht => ?_⟩
  · obtain ⟨C, hC⟩ := own_tyV h.en hk
    refine old k (Array.getElem?_eq_some_iff.1 hC).1 fun q => ?_
    obtain ⟨C2, hC2⟩ := own_tyV h.st q
    rw [hC] at hC2
    injection hC2 with hC2
    injection hC2 with _ hC2
    cases hC2
  · rcases List.mem_append.1 ht with q | q
    · exact h.il t q
    · rw [List.mem_singleton.1 q]
      exact hI
/-- The last one has ended. -/
theorem Em.pop (h : Em W B0 b ev0 E0 gv (A ++ [(s, r, rv)]) L M ne ev ns sv w) {gs c : Nat} (hsv : sv = .slice (some ⟨gs, 0, none⟩) ns c) (hB : B0 ≤ W.heap.size) (hn : ne + 1 ≤ 1000000000) :
    ∃ o' c' w', (apI 28 #[ev, .slice (some ⟨w.heap.size, 0, none⟩) 1 1]).run Try.prog (w.alloc (.cells #[.int .i64 (s : Int)] 3)) = .ok (.slice o' (ne + 1) c') w' ∧ Em W B0 b ev0 E0 gv A (L ++ [s]) M (ne + 1) (.slice o' (ne + 1) c') (ns - 1) (.slice (some ⟨gs, 0, none⟩) (ns - 1) c) w' := by
  have hBw := Nat.le_trans hB h.frm.size
  obtain ⟨v', w', r1, r2, r3, r4⟩ := run_apI w B0 ne 28 ev (E0 ++ L) s h.en (by omega) hBw
  obtain ⟨o', c', rfl⟩ := own_size r2
  have old : ∀ k, k < w.heap.size → ¬ ev.ownBlock = some k → w'.heap[k]? = w.heap[k]? := fun k hk hx => grown_oldR r3 k hk hx
  have hz : w.heap.size ≤ w'.heap.size := by have := r3.size; simp at this; omega
  have hns := (own_top h.st).1
  refine ⟨o', c', w', r1, ⟨r3.os.trans h.frm.os, r3.tape.trans h.frm.tape, r3.output.trans h.frm.output, Nat.le_trans h.frm.size hz, fun k hk hx => (old k (Nat.lt_of_lt_of_le hk h.frm.size) (fun q => ?_)).trans (h.frm.blk k hk hx)⟩, ?_, fun k hk => ?_, h.mks.keep (old b h.mks.lt fun q => ?_), ?_, fun t ht => h.il t (List.mem_append.2 (.inl ht))⟩
  · rcases h.enb k q with q | q
    · exact hx (.inr q)
    · omega
  · rw [← List.append_assoc]
    exact r2
  · rcases r4 with q | q
    · exact h.enb k (q.symm.trans hk)
    · rw [q] at hk
      have := Option.some.inj hk
      have := h.frm.size
      exact .inr (by omega)
  · obtain ⟨C, hC⟩ := own_tyV h.en q
    exact h.mks.row hC rfl
  · have q := own_cut (m := ns - 1) (hsv ▸ h.st) (by omega)
    have e : (ck (A ++ [(s, r, rv)])).take ((ns - 1) * 2) = ck A := by
      rw [hns, Nat.add_sub_cancel, ck_app, List.take_append_of_le_length (by rw [ck_len]; exact Nat.le_refl _), List.take_of_length_le (by rw [ck_len]; exact Nat.le_refl _)]
    rw [e] at q
    refine own_keep2 q fun k hk => ?_
    have hk2 : sv.ownBlock = some k := by rw [hsv]; exact hk
    obtain ⟨C, hC⟩ := own_tyV h.st hk2
    refine old k (Array.getElem?_eq_some_iff.1 hC).1 fun q => ?_
    obtain ⟨C2, hC2⟩ := own_tyV h.en q
    rw [hC] at hC2
    injection hC2 with hC2
    injection hC2 with _ hC2
    cases hC2
end
end Go.Proofs.Ytibhjkmbbfgnpaa
