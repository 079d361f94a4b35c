/- Several texts in one: GzA, GzB, GzC, GzD. -/
import Derived.Test.YtibhjkmbbfgnpaaJoA
import Derived.Test.YtibhjkmbbfgnpaaGxD
/- Graphs: a search that goes deep: what lies while it goes. -/
namespace Go.Proofs.Ytibhjkmbbfgnpaa
open Go.RowKit GM
set_option maxRecDepth 20000
/-- A vertex under way: the rest of its needs, and that as a value. -/
abbrev Tr : Type := Nat × List Nat × Value
def ck (T : List Tr) : List Value := T.flatMap fun t => [.int .i64 (t.1 : Int), t.2.2]
def tS (T : List Tr) : List (Nat × List Nat) := T.map fun t => (t.1, t.2.1)
theorem ck_app (A C : List Tr) : ck (A ++ C) = ck A ++ ck C := by simp [ck]
theorem ck_len (T : List Tr) : (ck T).length = T.length * 2 := by
  induction T with
  | nil => rfl
  | cons t T ih =>
    have : ck (t :: T) = .int .i64 (t.1 : Int) :: t.2.2 :: ck T := rfl
    rw [this, List.length_cons, List.length_cons, ih, List.length_cons]
    omega
theorem ck_one (t : Tr) : ck [t] = [.int .i64 (t.1 : Int), t.2.2] := rfl
theorem tS_app (A C : List Tr) : tS (A ++ C) = tS A ++ tS C := by simp [tS]
theorem tS_len (T : List Tr) : (tS T).length = T.length := by simp [tS]
set_option maxRecDepth 100000 in
theorem infoV : (Try.prog.info? 140).map (fun i => (i.zero, i.size, i.bytes)) = some (some (.agg #[.int .i64 0, .slice none 0 0]), 2, 32) := by kernel_rfl
def apV (ty : Nat) (vs : Array Value) : Sem Value := Builtin.append_ #[141, 141] ty vs
theorem toApV (ty : Nat) (vs : Array Value) : Builtin.append_ #[141, 141] ty vs = apV ty vs := rfl
theorem own_setC {w : World} {B e s n gs idx c : Nat} {xs : List Value} (h : w.ownsRow B e s (.slice (some ⟨gs, 0, none⟩) n c) n xs) (u : Value) : (w.setCell ⟨gs, idx, none⟩ u).ownsRow B e s (.slice (some ⟨gs, 0, none⟩) n c) n (xs.set idx u) := by
  obtain ⟨h0, h1⟩ := h
  rcases h1 with ⟨h1, -⟩ | ⟨g, cap, cur, e1, hB, hg, hnc, hcm, hcs, htk⟩
  · cases h1
  · injection e1 with e1 e2 e3
    injection e1 with e1
    injection e1 with e1
    subst e1 e3
    exact ⟨by simpa using h0, .inr ⟨gs, c, cur.setIfInBounds idx u, rfl, hB, heap_setCell_same _ _ _ _ _ _ hg, hnc, hcm, by simpa using hcs, by rw [Array.toList_setIfInBounds, List.take_set, htk]⟩⟩
theorem own_cut {w : World} {B e s n m gs c : Nat} {xs : List Value} (h : w.ownsRow B e s (.slice (some ⟨gs, 0, none⟩) n c) n xs) (hm : m ≤ n) : w.ownsRow B e s (.slice (some ⟨gs, 0, none⟩) m c) m (xs.take (m * s)) := by
  obtain ⟨h0, h1⟩ := h
  have hms : m * s ≤ n * s := Nat.mul_le_mul_right s hm
  rcases h1 with ⟨h1, -⟩ | ⟨g, cap, cur, e1, hB, hg, hnc, hcm, hcs, htk⟩
  · cases h1
  · injection e1 with e1 e2 e3
    injection e1 with e1
    injection e1 with e1
    subst e1 e3
    exact ⟨by rw [List.length_take, h0]; omega, .inr ⟨gs, c, cur, rfl, hB, hg, by omega, hcm, hcs, by rw [← htk, List.take_take]; congr 1; omega⟩⟩
/-- The place of the last one. -/
theorem own_top {w : World} {B ns : Nat} {sv : Value} {A : List Tr} {t : Tr} (h : w.ownsRow B 140 2 sv ns (ck (A ++ [t]))) : ns = A.length + 1 ∧ ∃ gs c, sv = .slice (some ⟨gs, 0, none⟩) ns c ∧ B ≤ gs ∧ ns ≤ c ∧ w.cell? ⟨gs, A.length * 2, none⟩ = some (.int .i64 (t.1 : Int)) ∧ w.cell? ⟨gs, A.length * 2 + 1, none⟩ = some t.2.2 ∧ (∀ k, w.frozen? ⟨gs, k, none⟩ = false) ∧ ∃ cur, w.heap[gs]? = some (.cells cur 140 (0, 0)) := by
  obtain ⟨h0, h1⟩ := h
  rw [ck_len, List.length_append, List.length_singleton] at h0
  have hns : ns = A.length + 1 := by omega
  rcases h1 with ⟨-, h1⟩ | ⟨g, cap, cur, e1, hB, hg, hnc, hcm, hcs, htk⟩
  · omega
  · have at' : ∀ j u, (ck (A ++ [t]))[j]? = some u → w.cell? ⟨g, j, none⟩ = some u := fun j u hu => by
      rw [cell_of_row _ _ _ _ _ _ hg]
      have hj := (List.getElem?_eq_some_iff.1 hu).1
      rw [ck_len] at hj
      rw [← htk, List.getElem?_take] at hu
      split at hu
      · rw [← Array.getElem?_toList]; exact hu
      · cases hu
    refine ⟨hns, g, cap, e1, hB, hnc, at' _ _ ?_, at' _ _ ?_, fun k => frozen_of_row _ _ _ _ _ hg, cur, hg⟩
    · rw [ck_app, ck_one, List.getElem?_append_right (by rw [ck_len]; omega), ck_len]
      simp
    · rw [ck_app, ck_one, List.getElem?_append_right (by rw [ck_len]; omega), ck_len]
      simp
theorem run_apV (w : World) (base n ty : Nat) (v : Value) (T : List Tr) (x : Nat) (r : List Nat) (o : Option Addr) (m c : Nat) (hown : w.ownsRow base 140 2 v n (ck T)) (hb : n + 1 ≤ 1000000000) (hbase : base ≤ w.heap.size) :
    ∃ v' w', (apV ty #[v, .slice (some ⟨w.heap.size, 0, none⟩) 1 1]).run Try.prog (w.alloc (.cells #[.int .i64 (x : Int), .slice o m c] 140)) = .ok v' w' ∧ w'.ownsRow base 140 2 v' (n + 1) (ck (T ++ [(x, r, .slice o m c)])) ∧ (w.alloc (.cells #[.int .i64 (x : Int), .slice o m c] 140)).grownBy w' v.ownBlock := by
  obtain ⟨i0, hi0, hz0, hz1, hz2⟩ := info_parts infoV
  obtain ⟨v', w', hr, ho, hg, _⟩ := run_append_own (P := Try.prog) (w.alloc (.cells #[.int .i64 (x : Int), .slice o m c] 140)) base 141 ty 140 i0 _ 2 32 Try.underlying141 hi0 hz0 hz1 hz2 rfl (by omega) v n _ (hown.alloc _) ⟨w.heap.size, 0, none⟩ 1 1 [.int .i64 (x : Int), .slice o m c] rfl
    (World.news_of_block (cs := #[.int .i64 (x : Int), .slice o m c]) (t := 140) (fr := (0, 0)) (heap_alloc_new w _)) (fun u hu => by
      rcases List.mem_cons.1 hu with q | q
      · subst q; rfl
      · have q := List.mem_singleton.1 q
        subst q; rfl) (by unfold maxLen; omega) (by omega) (by simp; omega)
  refine ⟨v', w', hr, ?_, hg⟩
  rw [ck_app, ck_one]
  exact ho
def slV (v : Value) (lo hi mx : Option Value) : Sem Value := Instr.slice 141 v lo hi mx
theorem toSlV (v : Value) (lo hi mx : Option Value) : Instr.slice 141 v lo hi mx = slV v lo hi mx := rfl
theorem elemV : Try.prog.elem 141 = 140 := by kernel_rfl
theorem uV : Try.prog.underlying 141 = some (.slice (Try.prog.elem 141)) := by rw [elemV]; exact Try.underlying141
theorem run_cutV (w : World) (g n c k : Nat) (hk : k ≤ c) : (slV (.slice (some ⟨g, 0, none⟩) n c) none (some (.int .i64 (k : Int))) none).run Try.prog w = .ok (.slice (some ⟨g, 0, none⟩) k c) w := by
  have := run_slice_h (P := Try.prog) w 141 (some ⟨g, 0, none⟩) n c uV .i64 (k : Int) (by omega) (by omega)
  obtain ⟨i, hi, _, hs, _⟩ := info_parts infoV
  have hz : (sizeOf 140).run Try.prog w = .ok 2 w := by simp [sizeOf, typeInfo, hi, hs]
  unfold slV
  rw [this, elemV, hz]
  simp [Result.andThen, sliced]
  intro _
  rfl
/-- A slice of numbers with its room. -/
structure Ilc (g : Nat) (v : Value) (l : List Nat) (w : World) : Prop where
  il : Il g v l w
  cp : ∃ o c, v = .slice o l.length c ∧ l.length ≤ c
/-- What lies while the search goes. -/
structure Em (W : World) (B0 b : Nat) (ev0 : Value) (E0 : List Nat) (gv : Nat → Nat) (T : List Tr) (L M : List Nat) (ne : Nat) (ev : Value) (ns : Nat) (sv : Value) (w : World) : Prop where
  frm : Rm.Frm (fun k => k = b ∨ ev0.ownBlock = some k) W w
  en : w.ownsRow B0 3 1 ev ne (ik (E0 ++ L)).toList
  enb : ∀ k, ev.ownBlock = some k → ev0.ownBlock = some k ∨ W.heap.size ≤ k
  mks : Mks w b M
  st : w.ownsRow W.heap.size 140 2 sv ns (ck T)
  il : ∀ t, t ∈ T → Ilc (gv t.1) t.2.2 t.2.1 W
section
variable {W w w2 : World} {B0 b ne ns s x : Nat} {ev0 ev sv : Value} {E0 L M r : List Nat} {gv : Nat → Nat} {T A : List Tr} {rv : Value}
theorem own_tyV {w : World} {B e s n k : Nat} {v : Value} {xs : List Value} (h : w.ownsRow B e s v n xs) (hk : v.ownBlock = some k) : ∃ c, w.heap[k]? = some (.cells c e (0, 0)) := by
  rcases h.2 with ⟨h1, _⟩ | ⟨g, cap, cur, h1, h2, h3, _⟩
  · rw [h1] at hk; cases hk
  · rw [h1] at hk; simp [Value.ownBlock] at hk; subst hk; exact ⟨cur, h3⟩
/-- The rest of the last one's needs is written over. -/
theorem Em.set (h : Em W B0 b ev0 E0 gv (A ++ [(s, r, rv)]) L M ne ev ns sv w) {r' : List Nat} {rv' : Value} {gs c : Nat} (hsv : sv = .slice (some ⟨gs, 0, none⟩) ns c) (hb : b < W.heap.size) (hI : Ilc (gv s) rv' r' W) : Em W B0 b ev0 E0 gv (A ++ [(s, r', rv')]) L M ne ev ns sv (w.setCell ⟨gs, A.length * 2 + 1, none⟩ rv') := by
  obtain ⟨hns, gs', c', e, hgW, -, -, -, -, cur, hcur⟩ := own_top h.st
  rw [hsv] at e
  injection e with e1 e2 e3
  injection e1 with e1
  injection e1 with e1
  subst e1
  have os : Rm.Frm (fun k => W.heap.size ≤ k) w (w.setCell ⟨gs, A.length * 2 + 1, none⟩ rv') := by
    rw [setCell_eq_setRow w gs (A.length * 2 + 1) _ _ _ _ hcur]
    exact ⟨rfl, rfl, rfl, by simp [World.setRow], fun k hk hx => setRow_other w gs k _ (fun e => hx (by rw [e]; exact hgW))⟩
  have oth : ∀ k, k ≠ gs → (w.setCell ⟨gs, A.length * 2 + 1, none⟩ rv').heap[k]? = w.heap[k]? := fun k hk => heap_setCell_other w ⟨gs, A.length * 2 + 1, none⟩ k _ hk
  refine ⟨⟨os.os.trans h.frm.os, os.tape.trans h.frm.tape, os.output.trans h.frm.output, Nat.le_trans h.frm.size os.size, fun k hk hx => (os.blk k (Nat.lt_of_lt_of_le hk h.frm.size) (by omega)).trans (h.frm.blk k hk hx)⟩, own_keep2 h.en fun k hk => oth k fun e => ?_, h.enb, h.mks.keep (oth b (by omega)), ?_, fun t ht => ?_⟩
  · obtain ⟨C, hC⟩ := own_tyV h.en hk
    rw [e, hcur] at hC
    injection hC with hC
    injection hC with _ hC
    cases hC
  · have q := own_setC (idx := A.length * 2 + 1) (hsv ▸ h.st) rv'
    rw [← hsv] at q
    have e : (ck (A ++ [(s, r, rv)])).set (A.length * 2 + 1) rv' = ck (A ++ [(s, r', rv')]) := by
      rw [ck_app, ck_app, List.set_append_right _ _ (by rw [ck_len]; omega), ck_len, Nat.add_sub_cancel_left]
      rfl
    rw [e] at q
    exact q
  · rcases List.mem_append.1 ht with q | q
    · exact h.il t (List.mem_append.2 (.inl q))
    · rw [List.mem_singleton.1 q]
      exact hI
/-- Marks. -/
theorem Em.mark (h : Em W B0 b ev0 E0 gv T L M ne ev ns sv w) {M' : List Nat} (hm : Mks w2 b M') (hf : Rm.Frm (fun k => k = b) w w2) : Em W B0 b ev0 E0 gv T L M' ne ev ns sv w2 := by
  have nb : ∀ {e s n : Nat} {v : Value} {xs : List Value} {B : Nat}, w.ownsRow B e s v n xs → ∀ k, v.ownBlock = some k → k < w.heap.size ∧ k ≠ b := fun {e s n v xs B} hr k hk => by
    obtain ⟨C, hC⟩ := own_tyV hr hk
    exact ⟨(Array.getElem?_eq_some_iff.1 hC).1, fun q => h.mks.row hC q.symm⟩
  exact ⟨⟨hf.os.trans h.frm.os, hf.tape.trans h.frm.tape, hf.output.trans h.frm.output, Nat.le_trans h.frm.size hf.size, fun k hk hx => (hf.blk k (Nat.lt_of_lt_of_le hk h.frm.size) (fun e => hx (.inl e))).trans (h.frm.blk k hk hx)⟩, own_keep2 h.en fun k hk => hf.blk k (nb h.en k hk).1 (nb h.en k hk).2, h.enb, hm, own_keep2 h.st fun k hk => hf.blk k (nb h.st k hk).1 (nb h.st k hk).2, h.il⟩
/-- One more is under way. -/
theorem Em.push (h : Em W B0 b ev0 E0 gv T L M ne ev ns sv w) (hb : b < W.heap.size) (hn : ns + 1 ≤ 1000000000) {o : Option Addr} {m c : Nat} (hI : Ilc (gv x) (.slice o m c) r W) :
    ∃ os cs w', (apV 141 #[sv, .slice (some ⟨w.heap.size, 0, none⟩) 1 1]).run Try.prog (w.alloc (.cells #[.int .i64 (x : Int), .slice o m c] 140)) = .ok (.slice os (ns + 1) cs) w' ∧ Em W B0 b ev0 E0 gv (T ++ [(x, r, .slice o m c)]) L M ne ev (ns + 1) (.slice os (ns + 1) cs) w' := by
  obtain ⟨v', w', r1, r2, r3⟩ := run_apV w W.heap.size ns 141 sv T x r o m c h.st hn h.frm.size
  obtain ⟨os, cs, rfl⟩ := own_size r2
  have old : ∀ k, k < w.heap.size → ¬ sv.ownBlock = some k → w'.heap[k]? = w.heap[k]? := fun k hk hx => grown_oldR r3 k hk hx
  have hz : w.heap.size ≤ w'.heap.size := by have := r3.size; simp at this; omega
  have ns' : ∀ k, k < W.heap.size → ¬ sv.ownBlock = some k := fun k hk e => by
    have := (h.st.lt k e).1
    omega
  refine ⟨os, cs, w', r1, ⟨r3.os.trans h.frm.os, r3.tape.trans h.frm.tape, r3.output.trans h.frm.output, Nat.le_trans h.frm.size hz, fun k hk hx => (old k (Nat.lt_of_lt_of_le hk h.frm.size) (ns' k hk)).trans (h.frm.blk k hk hx)⟩, own_keep2 h.en fun k hk => ?_, h.enb, h.mks.keep (old b h.mks.lt (ns' b hb)), r2, fun t ht => ?_⟩
  · obtain ⟨C, hC⟩ := own_tyV h.en hk
    refine old k (Array.getElem?_eq_some_iff.1 hC).1 fun q => ?_
    obtain ⟨C2, hC2⟩ := own_tyV h.st q
    rw [hC] at hC2
    injection hC2 with hC2
    injection hC2 with _ hC2
    cases hC2
  · rcases List.mem_append.1 ht with q | q
    · exact h.il t q
    · rw [List.mem_singleton.1 q]
      exact hI
/-- The last one has ended. -/
theorem Em.pop (h : Em W B0 b ev0 E0 gv (A ++ [(s, r, rv)]) L M ne ev ns sv w) {gs c : Nat} (hsv : sv = .slice (some ⟨gs, 0, none⟩) ns c) (hB : B0 ≤ W.heap.size) (hn : ne + 1 ≤ 1000000000) :
    ∃ o' c' w', (apI 28 #[ev, .slice (some ⟨w.heap.size, 0, none⟩) 1 1]).run Try.prog (w.alloc (.cells #[.int .i64 (s : Int)] 3)) = .ok (.slice o' (ne + 1) c') w' ∧ Em W B0 b ev0 E0 gv A (L ++ [s]) M (ne + 1) (.slice o' (ne + 1) c') (ns - 1) (.slice (some ⟨gs, 0, none⟩) (ns - 1) c) w' := by
  have hBw := Nat.le_trans hB h.frm.size
  obtain ⟨v', w', r1, r2, r3, r4⟩ := run_apI w B0 ne 28 ev (E0 ++ L) s h.en (by omega) hBw
  obtain ⟨o', c', rfl⟩ := own_size r2
  have old : ∀ k, k < w.heap.size → ¬ ev.ownBlock = some k → w'.heap[k]? = w.heap[k]? := fun k hk hx => grown_oldR r3 k hk hx
  have hz : w.heap.size ≤ w'.heap.size := by have := r3.size; simp at this; omega
  have hns := (own_top h.st).1
  refine ⟨o', c', w', r1, ⟨r3.os.trans h.frm.os, r3.tape.trans h.frm.tape, r3.output.trans h.frm.output, Nat.le_trans h.frm.size hz, fun k hk hx => (old k (Nat.lt_of_lt_of_le hk h.frm.size) (fun q => ?_)).trans (h.frm.blk k hk hx)⟩, ?_, fun k hk => ?_, h.mks.keep (old b h.mks.lt fun q => ?_), ?_, fun t ht => h.il t (List.mem_append.2 (.inl ht))⟩
  · rcases h.enb k q with q | q
    · exact hx (.inr q)
    · omega
  · rw [← List.append_assoc]
    exact r2
  · rcases r4 with q | q
    · exact h.enb k (q.symm.trans hk)
    · rw [q] at hk
      have := Option.some.inj hk
      have := h.frm.size
      exact .inr (by omega)
  · obtain ⟨C, hC⟩ := own_tyV h.en q
    exact h.mks.row hC rfl
  · have q := own_cut (m := ns - 1) (hsv ▸ h.st) (by omega)
    have e : (ck (A ++ [(s, r, rv)])).take ((ns - 1) * 2) = ck A := by
      rw [hns, Nat.add_sub_cancel, ck_app, List.take_append_of_le_length (by rw [ck_len]; exact Nat.le_refl _), List.take_of_length_le (by rw [ck_len]; exact Nat.le_refl _)]
    rw [e] at q
    refine own_keep2 q fun k hk => ?_
    have hk2 : sv.ownBlock = some k := by rw [hsv]; exact hk
    obtain ⟨C, hC⟩ := own_tyV h.st hk2
    refine old k (Array.getElem?_eq_some_iff.1 hC).1 fun q => ?_
    obtain ⟨C2, hC2⟩ := own_tyV h.en q
    rw [hC] at hC2
    injection hC2 with hC2
    injection hC2 with _ hC2
    cases hC2
end
end Go.Proofs.Ytibhjkmbbfgnpaa

/- Graphs: a search that goes deep: appendEnded. -/
namespace Go.Proofs.Ytibhjkmbbfgnpaa
open Go.RowKit GM
set_option maxRecDepth 20000
/-- The least that fits. -/
noncomputable def lst (p : Nat → Prop) : Nat := Classical.epsilon fun m => p m ∧ ∀ k, p k → m ≤ k
theorem lst_spec {p : Nat → Prop} (h : ∃ m, p m) : p (lst p) ∧ ∀ k, p k → lst p ≤ k := by
  have := Classical.epsilon_spec (p := fun m => p m ∧ ∀ k, p k → m ≤ k) (by
    obtain ⟨m, hm⟩ := h
    obtain ⟨K, -, h2, h3⟩ := least_of m ⟨m, Nat.le_refl _, hm⟩
    exact ⟨K, h2, fun k hk => by
      by_cases q : k < K
      · exact absurd hk (h3 k q)
      · omega⟩)
  exact this
theorem lst_less {p q : Nat → Prop} {k : Nat} (hk : q k) (hl : k < lst p) : lst q < lst p := by
  have := (lst_spec ⟨k, hk⟩).2 k hk
  omega
/-- What is left to do. -/
def wt (N : Nat) (T : List Tr) (L : List Nat) : Nat := (N - (L.length + T.length)) * (N + 2) + (T.map fun t => t.2.1.length + 1).sum
theorem wt_pop (N s : Nat) (A : List Tr) (L : List Nat) (rv : Value) : wt N A (L ++ [s]) < wt N (A ++ [(s, [], rv)]) L := by
  unfold wt
  have e : (L ++ [s]).length + A.length = L.length + (A ++ [(s, ([] : List Nat), rv)]).length := by simp; omega
  rw [e]
  simp
theorem wt_skip (N s x : Nat) (A : List Tr) (L r : List Nat) (rv rv' : Value) : wt N (A ++ [(s, r, rv')]) L < wt N (A ++ [(s, x :: r, rv)]) L := by
  unfold wt
  simp
theorem wt_push (N s x y : Nat) (A : List Tr) (L r Fx : List Nat) (rv rv' vx : Value) (h : L.length + (A.length + 1) + 1 ≤ N) (hx : Fx.length ≤ N) : wt N ((A ++ [(s, r, rv')]) ++ [(x, Fx, vx)]) L < wt N (A ++ [(s, y :: r, rv)]) L := by
  unfold wt
  obtain ⟨k, hk⟩ : ∃ k, N - (L.length + (A.length + 1 + 1)) = k := ⟨_, rfl⟩
  have hk2 : N - (L.length + (A.length + 1)) = k + 1 := by omega
  simp only [List.length_append, List.map_append, List.map_cons, List.map_nil, List.sum_append, List.sum_cons, List.sum_nil, List.length_cons, List.length_nil, Nat.zero_add]
  rw [hk, hk2, Nat.succ_mul]
  omega
/-- Between two rounds. -/
def Er (W : World) (F : Nat → List Nat) (N B0 b : Nat) (ev0 : Value) (M0 E0 : List Nat) (gv : Nat → Nat) (a ne : Nat) (ev : Value) (ns : Nat) (sv : Value) (w : World) (m : Nat) : Prop :=
  ∃ T L M, Em W B0 b ev0 E0 gv T L M ne ev ns sv w ∧ Ad F (fun x => x ∈ M0) a L (tS T) ∧ (∀ x, x ∈ M ↔ x ∈ M0 ∨ x ∈ L ∨ x ∈ (tS T).map Prod.fst) ∧ M.length = M0.length + L.length + T.length ∧ m = wt N T L
def Es (W : World) (F : Nat → List Nat) (N B0 b : Nat) (ev0 : Value) (M0 E0 : List Nat) (gv : Nat → Nat) (a : Nat) (ev sv : Value) (w : World) (m : Nat) : Prop := ∃ ne ns, Er W F N B0 b ev0 M0 E0 gv a ne ev ns sv w m
theorem own_num {w : World} {B e s n m c : Nat} {o : Option Addr} {xs : List Value} (h : w.ownsRow B e s (.slice o n c) m xs) : n = m := by
  obtain ⟨_, _, e⟩ := own_size h
  injection e
theorem nil_or_snoc {α : Type} (T : List α) : T = [] ∨ ∃ A t, T = A ++ [t] := by
  rcases List.eq_nil_or_concat T with h | ⟨A, t, h⟩
  · exact .inl h
  · exact .inr ⟨A, t, by rw [h, List.concat_eq_append]⟩
theorem wrS2 {n j : Nat} (h : n = j + 1) (h2 : n < 1000000000) : wrap64 ((n : Int) - 1) = (j : Int) := by unfold wrap64; omega
/-- What appendEnded answers. -/
def EnP (W : World) (F : Nat → List Nat) (B0 b : Nat) (ev0 : Value) (M0 E0 : List Nat) (a : Nat) (e : Ending) (w' : World) : Prop :=
  ∃ L n v' M, e = .returned v' ∧ Ae F (fun x => x ∈ M0) a L ∧ w'.ownsRow B0 3 1 v' n (ik (E0 ++ L)).toList ∧ Mks w' b M ∧ (∀ x, x ∈ M ↔ x ∈ M0 ∨ x ∈ L) ∧ M.length = M0.length + L.length ∧ Rm.Frm (fun k => k = b ∨ ev0.ownBlock = some k) W w' ∧ ∀ k, v'.ownBlock = some k → ev0.ownBlock = some k ∨ W.heap.size ≤ k
/-- What must hold ahead. -/
structure Eh (w : World) (F : Nat → List Nat) (N B0 b g : Nat) (gv : Nat → Nat) (V : Nat → Value) (ev0 : Value) (M0 E0 : List Nat) (n0 : Nat) (a : Nat) : Prop where
  en : w.ownsRow B0 3 1 ev0 n0 (ik E0).toList
  hB : B0 ≤ w.heap.size
  me : Mks w b M0
  cl : ∀ u, u ∈ M0 → ∀ x, x ∈ F u → x ∈ M0
  aN : a < N
  hN : N ≤ 1000000
  ro : ∀ v, v < N → w.cell? ⟨g, v, none⟩ = some (V v) ∧ Ilc (gv v) (V v) (F v) w
  hF : ∀ v, v < N → ∀ x ∈ F v, x < N
  hl : ∀ v, v < N → (F v).length ≤ N
  gg : g ≠ b ∧ ev0.ownBlock ≠ some g
  gvb : ∀ v, v < N → 0 < (F v).length → gv v ≠ b ∧ ev0.ownBlock ≠ some (gv v)
  m0 : M0.length ≤ 1000000
  e0 : E0.length ≤ 1000000
/-- At the beginning. -/
theorem er_zero {w w1 : World} {F : Nat → List Nat} {N B0 b g : Nat} {gv : Nat → Nat} {V : Nat → Value} {ev0 : Value} {M0 E0 : List Nat} {n0 a : Nat} (h : Eh w F N B0 b g gv V ev0 M0 E0 n0 a) (ha : a ∉ M0) (q1 : Mks w1 b (a :: M0)) (q2 : Rm.Frm (fun k => k = b) w w1) :
    Er w F N B0 b ev0 M0 E0 gv a n0 ev0 1 (.slice (some ⟨w1.heap.size, 0, none⟩) 1 1) (w1.alloc (.cells #[.int .i64 (a : Int), V a] 140)) (wt N [(a, F a, V a)] []) := by
  have b2 : Below w1.heap.size w1 (w1.alloc (.cells #[.int .i64 (a : Int), V a] 140)) := (Below.refl _ w1).alloc (Nat.le_refl _) _
  refine ⟨[(a, F a, V a)], [], a :: M0, ⟨?_, ?_, fun k hk => .inl hk, q1.keep (b2.block b q1.lt), ?_, fun t ht => ?_⟩, ad_zero ha, fun x => ?_, by simp, rfl⟩
  · exact ⟨b2.os.trans q2.os, b2.tape.trans q2.tape, b2.output.trans q2.output, Nat.le_trans q2.size b2.size, fun k hk hx => (b2.block k (Nat.lt_of_lt_of_le hk q2.size)).trans (q2.blk k hk fun e => hx (.inl e))⟩
  · rw [List.append_nil]
    refine own_keep2 h.en fun k hk => (b2.block k (Nat.lt_of_lt_of_le (h.en.lt k hk).2 q2.size)).trans (q2.blk k (h.en.lt k hk).2 fun e => ?_)
    obtain ⟨C', hC'⟩ := own_tyI h.en hk
    exact h.me.row hC' e.symm
  · exact ⟨rfl, .inr ⟨w1.heap.size, 1, _, rfl, q2.size, heap_alloc_new _ _, Nat.le_refl _, by unfold maxLen; omega, rfl, rfl⟩⟩
  · rw [List.mem_singleton.1 ht]
    exact (h.ro a h.aN).2
  · simp [tS]
    constructor
    · rintro (q | q)
      · exact .inr q
      · exact .inl q
    · rintro (q | q)
      · exact .inr q
      · exact .inl q
attribute [local go_sem ↓] toApI toApV toSlV
set_option maxRecDepth 100000 in
set_option maxHeartbeats 6400000 in
theorem ended_any (w : World) {F : Nat → List Nat} {N B0 b g : Nat} {gv : Nat → Nat} {V : Nat → Value} {ev0 : Value} {M0 E0 : List Nat} {n0 a : Nat} (h : Eh w F N B0 b g gv V ev0 M0 E0 n0 a) :
    Calls Try.prog 87 #[ev0, .int .i64 (a : Int), nOf g N, .map (some b)] w (EnP w F B0 b ev0 M0 E0 a) := by
  obtain ⟨oe, ce, rfl⟩ := own_size h.en
  have C := mark_any w h.me (v := a) (by have := h.aN; have := h.hN; omega) (by have := h.m0; omega)
  have H := mkHid h
  unfold nOf
  by_cases ha : a ∈ M0
  · rw [show decide (a ∉ M0) = false by simp [ha], mkk, if_pos ha] at C
    have HA := mkHid ha
    clear h ha
    go_enter Try.func87, Try.ntmps87
    go_wp2_with fail
    refine C.mono ?_
    rintro e w1 ⟨rfl, q1, q2⟩
    have HQ := mkHid (And.intro q1 q2)
    clear C q1 q2
    go_wp2_with fail
    go_ret
    obtain ⟨q1, q2⟩ := HQ.out
    have hen := H.out.en
    refine ⟨[], n0, _, M0, rfl, ae_none H.out.cl HA.out, ?_, q1, fun x => by simp, by simp, q2.wide fun _ _ h => .inl h, fun k hk => .inl hk⟩
    rw [List.append_nil]
    exact own_keep2 hen fun k hk => q2.blk k (hen.lt k hk).2 fun e => by
      obtain ⟨C', hC'⟩ := own_tyI hen hk
      exact H.out.me.row hC' e.symm
  · rw [show decide (a ∉ M0) = true by simp [ha], mkk, if_neg ha] at C
    have HA := mkHid ha
    clear h ha
    go_enter Try.func87, Try.ntmps87
    go_wp2_with fail
    refine C.mono ?_
    rintro e w1 ⟨rfl, q1, q2⟩
    obtain ⟨ro1, ro2⟩ := H.out.ro a H.out.aN
    obtain ⟨ov, cv, eV, -⟩ := id ro2.il
    have ro3 : w1.cell? ⟨g, a, none⟩ = some (V a) := (World.cell?_of_block (w := w) (a := ⟨g, a, none⟩) (q2.blk g (World.block_lt_of_cell? w _ ro1) H.out.gg.1)).trans ro1
    rw [eV] at ro3
    have CO := of_cell w1 (g := g) (N := N) ro3 H.out.aN
    have HQ := mkHid (And.intro q1 q2)
    obtain ⟨ln, hln⟩ : ∃ n, (F a).length = n := ⟨_, rfl⟩
    rw [hln] at CO
    have HV := mkHid (And.intro eV (And.intro ro2 hln))
    clear C q1 q2 ro1 ro2 ro3 eV hln
    go_wp2_with fail
    refine CO.mono ?_
    rintro e w2 ⟨rfl, rfl⟩
    clear CO
    have H0 : Hid (∃ m, Er w F N B0 b (.slice oe n0 ce) M0 E0 gv a n0 (.slice oe n0 ce) 1 (.slice (some ⟨w2.heap.size, 0, none⟩) 1 1) (w2.alloc (.cells #[.int .i64 (a : Int), .slice ov ln cv] 140)) m) := by
      have := er_zero H.out HA.out HQ.out.1 HQ.out.2
      rw [HV.out.1, HV.out.2.2] at this
      exact ⟨_, this⟩
    clear HQ
    go_wp2_with fail
    have H1 : Hid (∃ m, Es w F N B0 b (.slice oe n0 ce) M0 E0 gv a (.slice oe n0 ce) (.slice (some ⟨w2.heap.size, 0, none⟩) 1 1) (w2.alloc (.cells #[.int .i64 (a : Int), .slice ov ln cv] 140)) m) := let ⟨m, hm⟩ := H0.out; ⟨m, _, _, hm⟩
    go_loopw [9, 0] (fun sv ev wr => ∃ (os oe' : Option Addr) (ns cs ne ce' : Nat), sv = .slice os ns cs ∧ ev = .slice oe' ne ce' ∧ Hid (∃ m, Es w F N B0 b (.slice oe n0 ce) M0 E0 gv a (.slice oe' ne ce') (.slice os ns cs) wr m)) (fun sv ev wr => lst (Es w F N B0 b (.slice oe n0 ce) M0 E0 gv a ev sv wr))
    case atStart => exact ⟨_, oe, 1, 1, n0, ce, rfl, rfl, H1⟩
    case round =>
      obtain ⟨os, oe', ns, cs, ne, ce', rfl, rfl, HI⟩ := hrel
      obtain ⟨⟨ne2, ns2, T, L, M, hm, had, hM, hMl, hwt⟩, -⟩ := lst_spec HI.out
      have e1 := own_num hm.st
      have e2 := own_num hm.en
      subst e1 e2
      have hlen := had.len H.out.aN H.out.hF
      rw [tS_len] at hlen
      clear H0 H1 HI
      rcases nil_or_snoc T with rfl | ⟨A, ⟨s, q, rv⟩, rfl⟩
      · have hns : ns = 0 := by
          have := hm.st.1
          rw [show ck ([] : List Tr) = [] from rfl] at this
          simp at this
          omega
        subst hns
        have HF : Hid (EnP w F B0 b (.slice oe n0 ce) M0 E0 a (.returned (.slice oe' ne ce')) wr) := ⟨L, ne, _, M, rfl, had.done H.out.cl, hm.en, hm.mks, fun x => by have := hM x; simpa [tS] using this, by simpa using hMl, hm.frm, hm.enb⟩
        clear hm had hM hMl hwt hlen
        go_wp2_with fail
        go_ret
        exact HF.out
      · obtain ⟨hns, gs, c, e, hgs, hnc, c0, c1, fz, -⟩ := own_top hm.st
        injection e with e1 e2 e3
        subst e1 e3
        obtain ⟨⟨orv, crv, erv, hrv⟩, hcp⟩ := hm.il (s, q, rv) (by simp)
        have erv : rv = .slice orv q.length crv := erv
        subst erv
        have hqc : q.length ≤ crv := by
          obtain ⟨_, _, e, h⟩ := hcp
          injection e with e1 e2 e3
          rw [e3]
          exact h
        clear hcp
        obtain ⟨j, hj⟩ : ∃ j, A.length = j := ⟨_, rfl⟩
        have hln : L.length + (j + 1) ≤ N := by
          rw [← hj]
          simpa using hlen
        rw [hj] at c0 c1 hns
        have n0' : (0 : Int) < (ns : Int) := by omega
        have w1 := wrS2 hns (by have := H.out.hN; omega)
        have j0 := geI j
        have j1 := ltI (show j < ns by omega)
        have fz1 := fz (j * 2 + 1)
        have c0' : wr.cell? ⟨gs, j * 2, none⟩ = some (.int .i64 (s : Int)) := c0
        have c1' : wr.cell? ⟨gs, j * 2 + 1, none⟩ = some (.slice orv q.length crv) := c1
        have HN : Hid (ns = j + 1) := hns
        cases q with
        | nil =>
          have hne : ne ≤ 2000001 := by
            have h1 := hm.en.1
            have h2 := H.out.e0
            have h3 := H.out.hN
            simp [ik] at h1
            omega
          obtain ⟨o', c', w3, r1, hm3⟩ := hm.pop rfl H.out.hB (by omega)
          have had3 : Ad F (fun x => x ∈ M0) a (L ++ [s]) (tS A) := Ad.pop H.out.cl (by have := had; rw [tS_app] at this; exact this)
          have hM3 : ∀ x, x ∈ M ↔ x ∈ M0 ∨ x ∈ L ++ [s] ∨ x ∈ (tS A).map Prod.fst := fun x => by
            rw [hM x, tS_app, List.map_append, List.mem_append, List.mem_append]
            simp [tS]
            constructor
            · rintro (q | q | q | q)
              · exact .inl q
              · exact .inr (.inl (.inl q))
              · exact .inr (.inr q)
              · exact .inr (.inl (.inr q))
            · rintro (q | (q | q) | q)
              · exact .inl q
              · exact .inr (.inl q)
              · exact .inr (.inr (.inr q))
              · exact .inr (.inr (.inl q))
          have rc := run_cutV w3 gs ns cs j (by omega)
          have hnj : ns - 1 = j := by omega
          rw [hnj] at hm3
          have HR : Hid (Es w F N B0 b (.slice oe n0 ce) M0 E0 gv a (.slice o' (ne + 1) c') (.slice (some ⟨gs, 0, none⟩) j cs) w3 (wt N A (L ++ [s])) ∧ wt N A (L ++ [s]) < lst (Es w F N B0 b (.slice oe n0 ce) M0 E0 gv a (.slice oe' ne ce') (.slice (some ⟨gs, 0, none⟩) ns cs) wr)) := ⟨⟨_, _, A, L ++ [s], M, hm3, had3, hM3, by rw [hMl]; simp; omega, rfl⟩, by rw [hwt]; exact wt_pop N s A L _⟩
          clear hm had hM hMl hwt hlen hln hne hm3 had3 hM3 hnj hrv c0 c1 fz hns hj hgs hnc
          go_wp2_with fail
          exact ⟨⟨_, o', j, cs, ne + 1, c', rfl, rfl, _, HR.out.1⟩, lst_less HR.out.1 HR.out.2⟩
        | cons x r =>
          have hrvp := hrv (Nat.succ_pos _)
          obtain ⟨off, eo, hgw, hcc⟩ := hrvp
          have eo : orv = some ⟨gv s, off, none⟩ := eo
          subst eo
          have hgw : gv s < w.heap.size := hgw
          have hvs := had.rch s (.inr (by rw [tS_app, List.map_append]; simp [tS]))
          have hsN : s < N := hvs.lt H.out.aN H.out.hF
          have hxs : x ∈ F s := ((had.sr (s, x :: r) (by rw [tS_app]; simp [tS])).1 x (by simp))
          have hxN := H.out.hF s hsN x hxs
          have hFp : 0 < (F s).length := List.length_pos_of_mem hxs
          have hgb := H.out.gvb s hsN hFp
          have cxx : ∀ i, i < (x :: r).length → w.cell? ⟨gv s, off + i, none⟩ = some (.int .i64 (((x :: r).getD i 0 : Nat) : Int)) := hcc
          have cx : wr.cell? ⟨gv s, off, none⟩ = some (.int .i64 (x : Int)) := (World.cell?_of_block (w := w) (a := ⟨gv s, off, none⟩) (hm.frm.blk _ hgw (fun e => e.elim hgb.1 hgb.2))).trans (cxx 0 (Nat.succ_pos _))
          obtain ⟨O', hO'⟩ : ∃ O', (if crv = 1 then some ⟨gv s, off, none⟩ else some ⟨gv s, off + 1, none⟩ : Option Addr) = O' := ⟨_, rfl⟩
          have hil : Ilc (gv s) (.slice O' r.length (crv - 1)) r w := by
            have hqc2 : r.length + 1 ≤ crv := hqc
            refine ⟨⟨O', crv - 1, rfl, fun hp => ⟨off + 1, ?_, hgw, fun i hi => ?_⟩⟩, O', crv - 1, rfl, by omega⟩
            · rw [← hO', if_neg (by omega)]
            · have := cxx (i + 1) (Nat.succ_lt_succ hi)
              rw [show off + (i + 1) = off + 1 + i by omega] at this
              rw [this, List.getD_cons_succ]
          have hbw := H.out.me.lt
          have hm3 := hm.set (rv' := .slice O' r.length (crv - 1)) rfl hbw hil
          rw [hj] at hm3
          obtain ⟨Y, hY⟩ : ∃ Y, wr.setCell ⟨gs, j * 2 + 1, none⟩ (.slice O' r.length (crv - 1)) = Y := ⟨_, rfl⟩
          rw [hY] at hm3
          have hMle : M.length ≤ 2000000 := by
            have := H.out.m0
            have := H.out.hN
            simp at hMl
            omega
          have CM := mark_any Y hm3.mks (v := x) (by have := H.out.hN; omega) (by omega)
          have m1 : (1 : Int) ≤ ((r.length + 1 : Nat) : Int) := by omega
          have m2 : ((r.length + 1 : Nat) : Int) ≤ (crv : Int) := by have : r.length + 1 ≤ crv := hqc; omega
          obtain ⟨k, hk⟩ : ∃ k, r.length = k := ⟨_, rfl⟩
          obtain ⟨m, hmk⟩ : ∃ m, k + 1 = m := ⟨_, rfl⟩
          rw [show (x :: r).length = m by rw [List.length_cons, hk, hmk]] at c1 c1'
          rw [hk, hmk] at m1 m2
          rw [hk] at hm3 hil hY
          have hmk1 : m - 1 = k := by omega
          have hS0 : tS (A ++ [(s, x :: r, Value.slice (some ⟨gv s, off, none⟩) (x :: r).length crv)]) = tS A ++ [(s, x :: r)] := tS_app _ _
          have hS1 : tS (A ++ [(s, r, Value.slice O' k (crv - 1))]) = tS A ++ [(s, r)] := tS_app _ _
          have hmap : (tS A ++ [(s, x :: r)]).map Prod.fst = (tS A ++ [(s, r)]).map Prod.fst := map_last _ _ _ _
          rw [hS0] at had hM
          rw [hmap] at hM
          by_cases hxM : x ∈ M
          · rw [show decide (x ∉ M) = false by simp [hxM], mkk, if_pos hxM] at CM
            have HS : Hid (∀ w3, Mks w3 b M → Rm.Frm (fun k => k = b) Y w3 → Es w F N B0 b (.slice oe n0 ce) M0 E0 gv a (.slice oe' ne ce') (.slice (some ⟨gs, 0, none⟩) ns cs) w3 (wt N (A ++ [(s, r, Value.slice O' k (crv - 1))]) L) ∧ wt N (A ++ [(s, r, Value.slice O' k (crv - 1))]) L < lst (Es w F N B0 b (.slice oe n0 ce) M0 E0 gv a (.slice oe' ne ce') (.slice (some ⟨gs, 0, none⟩) ns cs) wr)) := fun w3 h3 f3 =>
              ⟨⟨_, _, _, L, M, hm3.mark h3 f3, by rw [hS1]; exact had.skip ((hM x).1 hxM), fun z => by rw [hS1]; exact hM z, by rw [hMl]; simp, rfl⟩, by rw [hwt]; exact wt_skip N s x A L r _ _⟩
            clear hm had hM hMl hwt hlen hln hm3 hil hxM hS0 hS1 hmap hMle hbw cxx hgb hFp hxN hxs hsN hvs hgw hcc hrv hqc c0 c1 fz hns hgs hnc erv
            go_upto_region 11 with fail
            try rw [hO']
            try rw [hmk1]
            try rw [hY]
            go_wp2_with fail
            refine CM.mono ?_
            rintro e w3 ⟨rfl, q1, q2⟩
            have HE := mkHid (HS.out w3 q1 q2)
            clear q1 q2 CM HS
            go_wp2_with fail
            exact ⟨⟨_, oe', ns, cs, ne, ce', rfl, rfl, _, HE.out.1⟩, lst_less HE.out.1 HE.out.2⟩
          · rw [show decide (x ∉ M) = true by simp [hxM], mkk, if_neg hxM] at CM
            obtain ⟨ro1, ro2⟩ := H.out.ro x hxN
            obtain ⟨ovx, cvx, eVx, -⟩ := id ro2.il
            obtain ⟨lnx, hlnx⟩ : ∃ n, (F x).length = n := ⟨_, rfl⟩
            have hlx := H.out.hl x hxN
            rw [eVx] at ro2 ro1
            have had4 : Ad F (fun x => x ∈ M0) a L (tS (A ++ [(s, r, Value.slice O' k (crv - 1))] ++ [(x, F x, Value.slice ovx (F x).length cvx)])) := by
              rw [tS_app, hS1]
              exact had.push fun q => hxM ((hM x).2 q)
            have hM4 : ∀ z, z ∈ x :: M ↔ z ∈ M0 ∨ z ∈ L ∨ z ∈ (tS (A ++ [(s, r, Value.slice O' k (crv - 1))] ++ [(x, F x, Value.slice ovx (F x).length cvx)])).map Prod.fst := fun z => by
              rw [tS_app, hS1, List.map_append, List.mem_append, List.mem_cons, hM z]
              simp [tS]
              constructor
              · rintro (q | q | q | q)
                · exact .inr (.inr (.inr q))
                · exact .inl q
                · exact .inr (.inl q)
                · exact .inr (.inr (.inl q))
              · rintro (q | q | q | q)
                · exact .inr (.inl q)
                · exact .inr (.inr (.inl q))
                · exact .inr (.inr (.inr q))
                · exact .inl q
            have hln4 : L.length + (A.length + 1) + 1 ≤ N := by
              have := had4.len H.out.aN H.out.hF
              rw [tS_len] at this
              simp at this
              omega
            have HS : Hid (∀ w3, Mks w3 b (x :: M) → Rm.Frm (fun k => k = b) Y w3 → w3.cell? ⟨g, x, none⟩ = some (.slice ovx lnx cvx) ∧ ∃ os' cs' w4, (apV 141 #[.slice (some ⟨gs, 0, none⟩) ns cs, .slice (some ⟨w3.heap.size, 0, none⟩) 1 1]).run Try.prog (w3.alloc (.cells #[.int .i64 (x : Int), .slice ovx lnx cvx] 140)) = .ok (.slice os' (ns + 1) cs') w4 ∧
                Hid (∃ m, Es w F N B0 b (.slice oe n0 ce) M0 E0 gv a (.slice oe' ne ce') (.slice os' (ns + 1) cs') w4 m ∧ m < lst (Es w F N B0 b (.slice oe n0 ce) M0 E0 gv a (.slice oe' ne ce') (.slice (some ⟨gs, 0, none⟩) ns cs) wr))) := fun w3 h3 f3 => by
              have hg1 := World.block_lt_of_cell? w _ ro1
              have c3 : w3.cell? ⟨g, x, none⟩ = some (.slice ovx (F x).length cvx) := (World.cell?_of_block (w := w) (a := ⟨g, x, none⟩) ((f3.blk g (Nat.lt_of_lt_of_le hg1 hm3.frm.size) H.out.gg.1).trans (hm3.frm.blk g hg1 (fun e => e.elim H.out.gg.1 H.out.gg.2)))).trans ro1
              obtain ⟨os', cs', w4, r1, r2⟩ := (hm3.mark h3 f3).push (x := x) (r := F x) hbw (by have := H.out.hN; rw [hns, ← hj]; omega) ro2
              rw [hlnx] at c3 r1
              exact ⟨c3, os', cs', w4, r1, _, ⟨_, _, _, L, x :: M, r2, had4, hM4, by rw [List.length_cons, hMl]; simp; omega, rfl⟩, by rw [hwt]; exact wt_push N s x x A L r (F x) _ _ _ hln4 hlx⟩
            clear hm had hM hMl hwt hlen hln hm3 hil hxM hS0 hS1 hmap hMle hbw cxx hgb hFp hxs hsN hvs hgw hcc hrv hqc c0 c1 fz hns hgs hnc erv had4 hM4 hln4 ro1 ro2 eVx hlx hlnx
            have HX := mkHid hxN
            clear hxN
            go_upto_region 11 with fail
            try rw [hO']
            try rw [hmk1]
            try rw [hY]
            go_wp2_with fail
            refine CM.mono ?_
            rintro e w3 ⟨rfl, q1, q2⟩
            obtain ⟨c3, os', cs', w4, r1, HE⟩ := HS.out w3 q1 q2
            have CO := of_cell w3 (g := g) (N := N) c3 HX.out
            clear q1 q2 CM HS c3
            go_wp2_with fail
            refine CO.mono ?_
            rintro e w5 ⟨rfl, rfl⟩
            clear CO
            go_wp2_with fail
            obtain ⟨m', HE1, HE2⟩ := HE.out
            exact ⟨⟨_, oe', ns + 1, _, ne, ce', rfl, rfl, _, HE1⟩, lst_less HE1 HE2⟩
end Go.Proofs.Ytibhjkmbbfgnpaa

/- Graphs: marks cleared; slices.Backward as an iterator. -/
namespace Go.Proofs.Ytibhjkmbbfgnpaa
open Go.RowKit GM
set_option maxRecDepth 20000
def clS (ty : Nat) (vs : Array Value) : Sem Value := Builtin.clear_ #[86] ty vs
theorem toClS (ty : Nat) (vs : Array Value) : Builtin.clear_ #[86] ty vs = clS ty vs := rfl
theorem Mks.clear {w : World} {b : Nat} {M : List Nat} (h : Mks w b M) (ty : Nat) : ∃ w', (clS ty #[.map (some b)]).run Try.prog w = .ok (.tuple #[]) w' ∧ Mks w' b [] ∧ Rm.Frm (fun k => k = b) w w' := by
  obtain ⟨D, ⟨es, clock, hb, F, hs, hD⟩, h2, h3⟩ := h
  have hlt := (Array.getElem?_eq_some_iff.1 hb).1
  refine ⟨{ w with heap := w.heap.setIfInBounds b (.map #[] clock) }, ?_, ⟨.map [], ⟨#[], clock, by simp [hlt], ⟨by simp, MapKept.stamped_empty clock, by simp⟩, Nat.le_refl _, rfl⟩, rfl, fun _ _ => rfl⟩, rfl, rfl, rfl, by simp, fun k hk hx => ?_⟩
  · simp [clS, Builtin.clear_, run_underlying Try.underlying86, MapKept.run_getObj_map hb, MapKept.run_setObj_map _ hb, Result.andThen]
  · have : ¬ b = k := fun e => hx e.symm
    simp [this]
/-- What a round of Backward is handed. -/
def BkV (E : List Nat) (i : Nat) (x : Array Value) (_ : World) : Prop := ∃ j v, j + i + 1 = E.length ∧ E[j]? = some v ∧ x = #[.int .i64 (j : Int), .int .i64 (v : Int)]
/-- Between two rounds. -/
structure Bw (W : World) (X0 : Nat → Prop) (J : Nat → (Nat → Prop) → World → Prop) (i : Nat) (Xo : Nat → Prop) (w : World) : Prop where
  j : J i Xo w
  grw : ∀ k, Xo k → X0 k ∨ W.heap.size ≤ k
  frm : Rm.Frm X0 W w
theorem Bw.frm2 {W w w' : World} {X0 Xo X' : Nat → Prop} {J : Nat → (Nat → Prop) → World → Prop} {i : Nat} (h : Bw W X0 J i Xo w) (hf : Rm.Frm (fun k => Xo k ∨ False) w w') (hX : ∀ k, X' k → (Xo k ∨ w.heap.size ≤ k) ∧ k < w'.heap.size) : (∀ k, X' k → X0 k ∨ W.heap.size ≤ k) ∧ Rm.Frm X0 W w' := by
  have hs := h.frm.size
  refine ⟨fun k hk => ?_, hf.os.trans h.frm.os, hf.tape.trans h.frm.tape, hf.output.trans h.frm.output, Nat.le_trans hs hf.size, fun k hk hx => (hf.blk k (Nat.lt_of_lt_of_le hk hs) (fun q => ?_)).trans (h.frm.blk k hk hx)⟩
  · rcases (hX k hk).1 with q | q
    · exact h.grw k q
    · exact .inr (by omega)
  · rcases q with q | q
    · rcases h.grw k q with q | q
      · exact hx q
      · omega
    · exact q
theorem wrB (n : Nat) (h : n < 1000000000) : wrap64 ((n : Int) - 1) = (n : Int) - 1 := by unfold wrap64; omega
theorem wrB2 (m i : Nat) (h : m < 1000000000) (hi : i < m) : wrap64 ((m : Int) - 1 - (i : Int) - 1) = (m : Int) - 1 - ((i + 1 : Nat) : Int) := by unfold wrap64; omega
theorem stepJ (j : Nat) (h : (0 : Int) ≤ (j : Int)) : (intOf (.int .i64 ((j : Int) - 1)) + 1).toNat < (intOf (.int .i64 (j : Int)) + 1).toNat := by
  simp only [intOf]
  omega
theorem measB (m i : Nat) (h : i < m) : ((m : Int) - 1 - ((i + 1 : Nat) : Int) + 1).toNat < ((m : Int) - 1 - (i : Int) + 1).toNat := by omega
attribute [local go_sem] Oper.semAt_some
set_option maxRecDepth 100000 in
set_option maxHeartbeats 6400000 in
theorem back_iter {Da : Nat → Prop} {kb g : Nat} {vE : Value} {E : List Nat} {w0 : World} (n : Nat) (hc : w0.cell? ⟨kb, 0, none⟩ = some vE) (hi : Il g vE E w0) (hd1 : Da kb) (hd2 : 0 < E.length → Da g) (hDa : ∀ k, Da k → k < w0.heap.size) (hE : E.length < 1000000000) :
    Rm.Iter Fence.wide n Try.prog 100 #[.pointer (some ⟨kb, 0, none⟩)] E.length (BkV E) (fun _ _ => False) (fun _ _ _ => True) w0 Da := by
  intro l J Jx W X0 hW hJ hJx hY h0 hX0 hX1
  obtain ⟨o, c, rfl, hil⟩ := hi
  obtain ⟨m, hm⟩ : ∃ m, E.length = m := ⟨_, rfl⟩
  rw [hm] at hc hil hE hY hd2 ⊢
  have HS : Hid (∃ Xo, Bw W X0 J 0 Xo W) := ⟨X0, h0, fun k hk => .inl hk, Rm.Frm.refl _ _⟩
  have HC : Hid (∀ w, Rm.Frm X0 W w → w.cell? ⟨kb, 0, none⟩ = some (.slice o m c) ∧ ∀ j v : Nat, E[j]? = some v → ∃ off, o = some ⟨g, off, none⟩ ∧ w.cell? ⟨g, off + j, none⟩ = some (.int .i64 (v : Int))) := fun w hf => by
    have kp : ∀ k, Da k → w.heap[k]? = w0.heap[k]? := fun k hk => (hf.blk k (Nat.lt_of_lt_of_le (hDa k hk) hW.size) (fun q => hX1 k q hk)).trans (hW.block k (hDa k hk))
    refine ⟨(World.cell?_of_block (w := w0) (a := ⟨kb, 0, none⟩) (kp kb hd1)).trans hc, fun j v hj => ?_⟩
    have hjm : j < m := by rw [← hm]; exact (List.getElem?_eq_some_iff.1 hj).1
    obtain ⟨off, e1, -, e2⟩ := hil (by omega)
    refine ⟨off, e1, (World.cell?_of_block (w := w0) (a := ⟨g, off + j, none⟩) (kp g (hd2 (by omega)))).trans ?_⟩
    have e3 := e2 j hjm
    rw [List.getD_eq_getElem?_getD, hj] at e3
    exact e3
  have HY := mkHid (And.intro hJ (And.intro hJx (And.intro hY (And.intro hm (And.intro hX0 hE)))))
  have cb := (HC.out W (Rm.Frm.refl _ _)).1
  have w1 := wrB m hE
  clear hJ hJx hY h0 hX0 hX1 hm hil hc hd1 hd2 hDa hE hW
  show CallsIn _ _ _ _ #[.func (.yield l) #[] #[], .pointer (some ⟨kb, 0, none⟩)] W _
  refine callsIn_of_wp Try.func100 rfl trivial ?_ rfl
  simp only [Try.ntmps100, List.size_toArray, List.length_cons, List.length_nil, Nat.reduceAdd, Nat.reduceSub, Array.replicate_succ, Array.replicate_zero, List.push_toArray, List.append_toArray, List.nil_append, List.cons_append]
  gi_wp2
  clear cb w1
  gi_loopw [3] (fun iv wr => ∃ i : Nat, iv = .int .i64 ((m : Int) - 1 - (i : Int)) ∧ i ≤ m ∧ Hid (∃ Xo, Bw W X0 J i Xo wr)) (fun iv _ => (intOf iv + 1).toNat)
  case atStart => exact ⟨0, by simp, Nat.zero_le _, HS⟩
  case round =>
    obtain ⟨i, rfl, hi, HI⟩ := hrel
    obtain ⟨Xo, hs⟩ := HI.out
    by_cases hlt : i < m
    · obtain ⟨cb, cE⟩ := HC.out wr hs.frm
      obtain ⟨j, hj⟩ : ∃ j, j + i + 1 = m := ⟨m - 1 - i, by omega⟩
      have hjE : j < E.length := by rw [HY.out.2.2.2.1]; omega
      have hv := List.getElem?_eq_getElem hjE
      obtain ⟨v, hvv⟩ : ∃ v, E[j] = v := ⟨_, rfl⟩
      rw [hvv] at hv
      obtain ⟨off, rfl, cj⟩ := cE j v hv
      obtain ⟨fn, tmps, assign, body, hy, hR⟩ := HY.out.2.2.1 i #[.int .i64 (j : Int), .int .i64 (v : Int)] Xo wr hlt hs.j hs.frm.size ⟨j, v, by rw [HY.out.2.2.2.1]; exact hj, hv, rfl⟩ (fun k hk => hk.elim)
      have ej : (m : Int) - 1 - (i : Int) = (j : Int) := by omega
      have ej2 : (m : Int) - 1 - ((i + 1 : Nat) : Int) = (j : Int) - 1 := by omega
      have j0 : (0 : Int) ≤ (j : Int) := by omega
      have j1 : (j : Int) < (m : Int) := by omega
      have wj := wrB j (by have := HY.out.2.2.2.2.2; omega)
      have HQ := mkHid (And.intro hs (And.intro hlt (And.intro ej ej2)))
      rw [ej]
      clear hs hlt cE hj hjE hv hvv ej ej2 HI
      gi_wp2
      refine ⟨fun h => (by cases h), hR.mono ?_⟩
      rintro e W2 ⟨X', hf, hX', (⟨rfl, hJ2, hR2⟩ | ⟨rfl, hJx2⟩)⟩
      · have HE : Hid (∃ Xo, Bw W X0 J (i + 1) Xo W2) := ⟨X', hJ2, (HQ.out.1.frm2 hf hX').1, (HQ.out.1.frm2 hf hX').2⟩
        clear hf hX' hJ2 hR2 hy hR
        gi_wp2
        obtain ⟨-, h1, -, h2⟩ := HQ.out
        exact ⟨⟨i + 1, by rw [wj, h2], h1, HE⟩, by rw [wj]; exact stepJ j j0⟩
      · have HE : Hid (∃ X : Nat → Prop, (∀ k, X k → X0 k ∨ W.heap.size ≤ k) ∧ Rm.Frm X0 W W2 ∧ Jx X W2) := ⟨X', (HQ.out.1.frm2 hf hX').1, (HQ.out.1.frm2 hf hX').2, hJx2⟩
        clear hf hX' hJx2 hR hy
        gi_wp2
        refine bodyPost_ret (results_none rfl _ _ _) rfl ?_
        obtain ⟨X1, q1, q2, q3⟩ := HE.out
        exact ⟨⟨_, rfl⟩, X1, q1, q2, .inr q3⟩
    · obtain rfl := eqI hi hlt
      have HE : Hid (∃ X : Nat → Prop, (∀ k, X k → X0 k ∨ W.heap.size ≤ k) ∧ Rm.Frm X0 W wr ∧ J i X wr) := ⟨Xo, hs.grw, hs.frm, hs.j⟩
      have im : ¬ (0 : Int) ≤ (i : Int) - 1 - (i : Int) := by omega
      clear hs
      gi_wp2
      go_end0
      obtain ⟨X1, q1, q2, q3⟩ := HE.out
      exact ⟨⟨_, rfl⟩, X1, q1, q2, .inl q3⟩
end Go.Proofs.Ytibhjkmbbfgnpaa

/- Graphs: the parts as they lie, while they are gathered. -/
namespace Go.Proofs.Ytibhjkmbbfgnpaa
open Go.RowKit GM
set_option maxRecDepth 20000
def apP (ty : Nat) (vs : Array Value) : Sem Value := Builtin.append_ #[42, 42] ty vs
theorem toApP (ty : Nat) (vs : Array Value) : Builtin.append_ #[42, 42] ty vs = apP ty vs := rfl
/-- A list of lists of numbers, each in memory of its own. -/
structure Pl (B : Nat) (pv : Value) (n : Nat) (Ps : List (List Nat)) (vs : List Value) (w : World) : Prop where
  row : w.ownsRow B 28 1 pv n vs
  len : vs.length = Ps.length
  own : ∀ (i : Nat) v p, vs[i]? = some v → Ps[i]? = some p → ∃ m, w.ownsRow B 3 1 v m (ik p).toList
  apt : ∀ (i j : Nat) v u k, i ≠ j → vs[i]? = some v → vs[j]? = some u → v.ownBlock = some k → u.ownBlock ≠ some k
section
variable {B n : Nat} {pv : Value} {Ps : List (List Nat)} {vs : List Value} {w w' : World}
theorem pl_nil (w : World) (B : Nat) : Pl B (.slice none 0 0) 0 [] [] w := ⟨World.ownsRow_nil _ _ _ _, rfl, fun i v p h => by simp at h, fun i j v u k _ h => by simp at h⟩
/-- Its blocks. -/
def plB (pv : Value) (vs : List Value) (k : Nat) : Prop := pv.ownBlock = some k ∨ ∃ v, v ∈ vs ∧ v.ownBlock = some k
theorem Pl.one (h : Pl B pv n Ps vs w) {v : Value} (hv : v ∈ vs) : ∃ p m, p ∈ Ps ∧ w.ownsRow B 3 1 v m (ik p).toList := by
  obtain ⟨i, hi, e⟩ := List.getElem_of_mem hv
  have h1 : vs[i]? = some v := by rw [List.getElem?_eq_getElem hi, e]
  have hi2 : i < Ps.length := by rw [← h.len]; exact hi
  have h2 : Ps[i]? = some Ps[i] := List.getElem?_eq_getElem hi2
  obtain ⟨m, hm⟩ := h.own i v _ h1 h2
  exact ⟨_, m, List.getElem_mem hi2, hm⟩
theorem Pl.lt (h : Pl B pv n Ps vs w) {k : Nat} (hk : plB pv vs k) : B ≤ k ∧ k < w.heap.size := by
  rcases hk with q | ⟨v, q1, q2⟩
  · exact h.row.lt k q
  · obtain ⟨p, m, -, ho⟩ := h.one q1
    exact ho.lt k q2
theorem Pl.keep (h : Pl B pv n Ps vs w) (hb : ∀ k, plB pv vs k → w'.heap[k]? = w.heap[k]?) : Pl B pv n Ps vs w' :=
  ⟨own_keep2 h.row fun k hk => hb k (.inl hk), h.len, fun i v p h1 h2 => (h.own i v p h1 h2).imp fun _ hm => own_keep2 hm fun k hk => hb k (.inr ⟨v, List.mem_of_getElem? h1, hk⟩), h.apt⟩
theorem Pl.base {B' : Nat} (h : Pl B pv n Ps vs w) (hB : B' ≤ B) : Pl B' pv n Ps vs w := by
  have q : ∀ {e s n : Nat} {v : Value} {xs : List Value}, w.ownsRow B e s v n xs → w.ownsRow B' e s v n xs := fun {e s n v xs} ho => by
    obtain ⟨h0, h1 | ⟨g, cap, cur, h1, h2, h3⟩⟩ := ho
    · exact ⟨h0, .inl h1⟩
    · exact ⟨h0, .inr ⟨g, cap, cur, h1, Nat.le_trans hB h2, h3⟩⟩
  exact ⟨q h.row, h.len, fun i v p h1 h2 => (h.own i v p h1 h2).imp fun _ hm => q hm, h.apt⟩
theorem Pl.num (h : Pl B pv n Ps vs w) : n = Ps.length := by
  have := h.row.1
  rw [Nat.mul_one] at this
  rw [← this, h.len]
/-- A list more. -/
theorem Pl.add (h : Pl B pv n Ps vs w) {v : Value} {m : Nat} {p : List Nat} (ho : w.ownsRow B 3 1 v m (ik p).toList) (hn : ∀ k, v.ownBlock = some k → ¬ plB pv vs k) (hb : n + 1 ≤ 1000000) (hB : B ≤ w.heap.size) :
    ∃ o' c' w', (apP 42 #[pv, .slice (some ⟨w.heap.size, 0, none⟩) 1 1]).run Try.prog (w.alloc (.cells #[v] 28)) = .ok (.slice o' (n + 1) c') w' ∧ Pl B (.slice o' (n + 1) c') (n + 1) (Ps ++ [p]) (vs ++ [v]) w' ∧ Rm.Frm (fun k => pv.ownBlock = some k) w w' ∧ ∀ k, (Value.slice o' (n + 1) c').ownBlock = some k → pv.ownBlock = some k ∨ w.heap.size ≤ k := by
  obtain ⟨i0, hi0, hz0, hz1, hz2⟩ := info_parts info35
  obtain ⟨ov, cv, rfl⟩ := own_size ho
  obtain ⟨v', w', hr, hw, hg, _, hat⟩ := run_append_own_at (P := Try.prog) (w.alloc (.cells #[.slice ov m cv] 28)) B 42 42 28 i0 _ 1 24 Try.underlying42 hi0 hz0 hz1 hz2 rfl (by omega) pv n _ (h.row.alloc _) ⟨w.heap.size, 0, none⟩ 1 1 [.slice ov m cv] rfl
    (World.news_of_block (cs := #[.slice ov m cv]) (t := 28) (fr := (0, 0)) (heap_alloc_new w _)) (fun u hu => by
      have q := List.mem_singleton.1 hu
      subst q; rfl) (by unfold maxLen; omega) (by omega) (by simp; omega)
  obtain ⟨o', c', rfl⟩ := own_size hw
  have old : ∀ k, k < w.heap.size → ¬ pv.ownBlock = some k → w'.heap[k]? = w.heap[k]? := fun k hk hx => grown_oldR hg k hk hx
  have hz : w.heap.size ≤ w'.heap.size := by have := hg.size; simp at this; omega
  have ty : ∀ {u : Value} {mu : Nat} {q : List Nat}, w.ownsRow B 3 1 u mu (ik q).toList → ∀ k, u.ownBlock = some k → ¬ pv.ownBlock = some k := fun hu k hk hp => by
    obtain ⟨C, hC⟩ := own_tyV hu hk
    obtain ⟨C2, hC2⟩ := own_tyV h.row hp
    rw [hC] at hC2
    injection hC2 with hC2
    injection hC2 with _ hC2
    cases hC2
  refine ⟨o', c', w', hr, ⟨hw, by simp [h.len], fun i u q h1 h2 => ?_, fun i j u x k hij h1 h2 h3 => ?_⟩, ⟨hg.os, hg.tape, hg.output, hz, old⟩, fun k hk => ?_⟩
  · rw [List.getElem?_append] at h1 h2
    by_cases hi : i < vs.length
    · rw [if_pos hi] at h1
      rw [if_pos (by rw [← h.len]; exact hi)] at h2
      obtain ⟨mu, hu⟩ := h.own i u q h1 h2
      exact ⟨mu, own_keep2 hu fun k hk => old k (hu.lt k hk).2 (ty hu k hk)⟩
    · rw [if_neg hi] at h1
      rw [if_neg (by rw [← h.len]; exact hi)] at h2
      rw [← h.len] at h2
      have e : i - vs.length = 0 := by
        have := (List.getElem?_eq_some_iff.1 h1).1
        simpa using this
      rw [e] at h1 h2
      simp at h1 h2
      subst h1 h2
      exact ⟨m, own_keep2 ho fun k hk => old k (ho.lt k hk).2 (ty ho k hk)⟩
  · rw [List.getElem?_append] at h1 h2
    have last : ∀ {i : Nat} {u : Value}, ¬ i < vs.length → [Value.slice ov m cv][i - vs.length]? = some u → i = vs.length ∧ u = .slice ov m cv := fun {i u} hi hu => by
      have := (List.getElem?_eq_some_iff.1 hu).1
      have e : i - vs.length = 0 := by simpa using this
      rw [e] at hu
      simp at hu
      exact ⟨by omega, hu.symm⟩
    by_cases hi : i < vs.length
    · rw [if_pos hi] at h1
      by_cases hj : j < vs.length
      · rw [if_pos hj] at h2
        exact h.apt i j u x k hij h1 h2 h3
      · rw [if_neg hj] at h2
        obtain ⟨-, rfl⟩ := last hj h2
        exact fun q => hn k q (.inr ⟨u, List.mem_of_getElem? h1, h3⟩)
    · rw [if_neg hi] at h1
      obtain ⟨hi2, rfl⟩ := last hi h1
      by_cases hj : j < vs.length
      · rw [if_pos hj] at h2
        exact fun q => hn k h3 (.inr ⟨x, List.mem_of_getElem? h2, q⟩)
      · rw [if_neg hj] at h2
        obtain ⟨hj2, -⟩ := last hj h2
        omega
  · rcases hat with q | q
    · exact .inl (q.symm.trans hk)
    · rw [q] at hk
      have := Option.some.inj hk
      simp at this
      exact .inr (by omega)
end
/-- What lies while the parts are gathered: i of the ended are gone through. -/
structure Cp (Y : World) (F : Nat → List Nat) (N : Nat) (E : List Nat) (kP b i : Nat) (o : Option Addr) (n c : Nat) (Ps : List (List Nat)) (vs : List Value) (M C P Q : List Nat) (X' : Nat → Prop) (U : World) : Prop where
  iq : Q.length = i
  kq : Kq F N E P Q (fun x => x ∈ M) Ps
  box : U.heap[kP]? = some (.cells #[.slice o n c] 42 (0, 0))
  pl : Pl Y.heap.size (.slice o n c) n Ps vs U
  mks : Mks U b M
  cn : C.Nodup
  cm : ∀ x, x ∈ M ↔ x ∈ C
  cl : ∀ x, x ∈ C → x < N
  ml : M.length = C.length
  pn : n ≤ C.length
  xs : ∀ k, X' k ↔ k = kP ∨ k = b ∨ plB (.slice o n c) vs k
  oth : ∀ k, k < Y.heap.size → k ≠ kP → k ≠ b → U.heap[k]? = Y.heap[k]?
  sz : Y.heap.size ≤ U.heap.size
  lt : kP < Y.heap.size ∧ b < Y.heap.size ∧ kP ≠ b
  os : U.os = Y.os
  tp : U.tape = Y.tape
  ot : U.output = Y.output
section
variable {Y U U' w' : World} {F G : Nat → List Nat} {N kP b i n c v m : Nat} {E M C P Q L M' : List Nat} {o : Option Addr} {Ps : List (List Nat)} {vs : List Value} {X' : Nat → Prop} {pv : Value}
theorem Cp.keep (h : Cp Y F N E kP b i o n c Ps vs M C P Q X' U) (hg : Rm.Agr (fun k => k < Y.heap.size ∨ X' k) U U') : Cp Y F N E kP b i o n c Ps vs M C P Q X' U' :=
  have q {k : Nat} (hk : k < Y.heap.size) : U'.heap[k]? = U.heap[k]? := hg.blk k (Nat.lt_of_lt_of_le hk h.sz) (.inl hk)
  ⟨h.iq, h.kq, (q h.lt.1).trans h.box, h.pl.keep fun k hk => hg.blk k (h.pl.lt hk).2 (.inr ((h.xs k).2 (.inr (.inr hk)))), h.mks.keep (q h.lt.2.1), h.cn, h.cm, h.cl, h.ml, h.pn, h.xs, fun k hk h1 h2 => (q hk).trans (h.oth k hk h1 h2), Nat.le_trans h.sz hg.size, h.lt, hg.os.trans h.os, hg.tape.trans h.tp, hg.output.trans h.ot⟩
theorem Cp.lim (h : Cp Y F N E kP b i o n c Ps vs M C P Q X' U) {k : Nat} (hk : X' k) : k < U.heap.size := by
  have := h.sz
  have := h.lt
  rcases (h.xs k).1 hk with q | q | q
  · omega
  · omega
  · exact (h.pl.lt q).2
/-- Of the ended the next. -/
theorem last_of {E P Q : List Nat} {i j v : Nat} (e : E = P ++ Q) (hq : Q.length = i) (hj : j + i + 1 = E.length) (hv : E[j]? = some v) : ∃ P', P = P' ++ [v] := by
  rcases List.eq_nil_or_concat P with h | ⟨P', x, h⟩
  · rw [h] at e
    simp at e
    rw [e] at hj
    omega
  · rw [List.concat_eq_append] at h
    refine ⟨P', ?_⟩
    have hl : j = P'.length := by
      have := congrArg List.length e
      rw [h] at this
      simp at this
      omega
    rw [e, h, hl] at hv
    simp at hv
    rw [h, hv]
/-- Behind the search from the next. -/
structure Cq (Y : World) (F : Nat → List Nat) (N : Nat) (E : List Nat) (kP b i : Nat) (o : Option Addr) (n c : Nat) (Ps : List (List Nat)) (vs : List Value) (C P Q L M' : List Nat) (pv : Value) (m v : Nat) (X' : Nat → Prop) (U w' : World) : Prop where
  iq : Q.length = i
  kq : Kq F N E P (v :: Q) (fun x => x ∈ M') (if L = [] then Ps else Ps ++ [L])
  box : w'.heap[kP]? = some (.cells #[.slice o n c] 42 (0, 0))
  pl : Pl Y.heap.size (.slice o n c) n Ps vs w'
  pt : w'.ownsRow Y.heap.size 3 1 pv m (ik L).toList
  new : ∀ k, pv.ownBlock = some k → U.heap.size ≤ k
  mks : Mks w' b M'
  cn : (C ++ L).Nodup
  cm : ∀ x, x ∈ M' ↔ x ∈ C ++ L
  cl : ∀ x, x ∈ C ++ L → x < N
  ml : M'.length = (C ++ L).length
  pn : n ≤ C.length
  xs : ∀ k, X' k ↔ k = kP ∨ k = b ∨ plB (.slice o n c) vs k
  oth : ∀ k, k < Y.heap.size → k ≠ kP → k ≠ b → w'.heap[k]? = Y.heap[k]?
  sz : Y.heap.size ≤ U.heap.size
  lt : kP < Y.heap.size ∧ b < Y.heap.size ∧ kP ≠ b
  frm : Rm.Frm X' U w'
  os : w'.os = Y.os
  tp : w'.tape = Y.tape
  ot : w'.output = Y.output
  plU : ∀ k, plB (.slice o n c) vs k → k < U.heap.size
theorem Cp.behind (h : Cp Y F N E kP b i o n c Ps vs M C (P ++ [v]) Q X' U) (hE : Ke F N E) (hG : ∀ x y, y ∈ F x ↔ x ∈ G y) (hall : ∀ x, x < N → x ∈ E) (hGl : ∀ v, v < N → ∀ x ∈ G v, x < N)
    (hL : Ae G (fun x => x ∈ M) v L) (hp : w'.ownsRow Y.heap.size 3 1 pv m (ik L).toList) (hm : Mks w' b M') (hM : ∀ x, x ∈ M' ↔ x ∈ M ∨ x ∈ L) (hl : M'.length = M.length + L.length) (hf : Rm.Frm (fun k => k = b) U w') (hn : ∀ k, pv.ownBlock = some k → U.heap.size ≤ k) :
    Cq Y F N E kP b i o n c Ps vs C P Q L M' pv m v X' U w' := by
  have hvE : v ∈ E := by rw [h.kq.e]; simp
  have hb : ∀ k, k < U.heap.size → k ≠ b → w'.heap[k]? = U.heap[k]? := fun k hk hx => hf.blk k hk hx
  have hY := h.sz
  have pb : ∀ k, plB (.slice o n c) vs k → k < U.heap.size ∧ k ≠ b := fun k hk => by
    have := h.pl.lt hk
    have := h.lt.2.1
    exact ⟨by omega, by omega⟩
  refine ⟨h.iq, h.kq.step hE hG hall hGl hL hM, (hb kP (by have := h.lt.1; omega) h.lt.2.2).trans h.box, h.pl.keep fun k hk => hb k (pb k hk).1 (pb k hk).2, hp, hn, hm, ?_, fun x => ?_, fun x hx => ?_, ?_, h.pn, h.xs, fun k hk h1 h2 => (hb k (by omega) h2).trans (h.oth k hk h1 h2), hY, h.lt, hf.wide fun k _ hk => (h.xs k).2 (.inr (.inl hk)), hf.os.trans h.os, hf.tape.trans h.tp, hf.output.trans h.ot, fun k hk => (pb k hk).1⟩
  · rw [List.nodup_append]
    refine ⟨h.cn, hL.nd, fun x hx y hy e => ?_⟩
    subst e
    exact ((hL.mem x).1 hy).2 ((h.cm x).2 hx)
  · rw [hM x, h.cm x, List.mem_append]
  · rcases List.mem_append.1 hx with q | q
    · exact h.cl x q
    · exact ((hL.mem x).1 q).1.lt (hE.lt v hvE) hGl
  · rw [hl, h.ml, List.length_append]
/-- Nothing was found. -/
theorem Cq.empty (h : Cq Y F N E kP b i o n c Ps vs C P Q L M' pv m v X' U w') (hL : L = []) : Cp Y F N E kP b (i + 1) o n c Ps vs M' (C ++ L) P (v :: Q) X' w' :=
  ⟨by rw [List.length_cons, h.iq], by have := h.kq; rw [if_pos hL] at this; exact this, h.box, h.pl, h.mks, h.cn, h.cm, h.cl, h.ml, by rw [List.length_append]; have := h.pn; omega, h.xs, h.oth, Nat.le_trans h.sz h.frm.size, h.lt, h.os, h.tp, h.ot⟩
/-- A part more. -/
theorem Cq.more (h : Cq Y F N E kP b i o n c Ps vs C P Q L M' pv m v X' U w') (hL : L ≠ []) (hN : N ≤ 100000) :
    ∃ o' c' w2, (apP 42 #[.slice o n c, .slice (some ⟨w'.heap.size, 0, none⟩) 1 1]).run Try.prog (w'.alloc (.cells #[pv] 28)) = .ok (.slice o' (n + 1) c') w2 ∧ w2.heap[kP]? = some (.cells #[.slice o n c] 42 (0, 0)) ∧
      ∃ X2 : Nat → Prop, Rm.Frm X' U (w2.setCell ⟨kP, 0, none⟩ (.slice o' (n + 1) c')) ∧ (∀ k, X2 k → (X' k ∨ U.heap.size ≤ k) ∧ k < (w2.setCell ⟨kP, 0, none⟩ (.slice o' (n + 1) c')).heap.size) ∧
        Cp Y F N E kP b (i + 1) o' (n + 1) c' (Ps ++ [L]) (vs ++ [pv]) M' (C ++ L) P (v :: Q) X2 (w2.setCell ⟨kP, 0, none⟩ (.slice o' (n + 1) c')) := by
  have hC : C.length + L.length ≤ N := by
    have := nodup_len N _ h.cn h.cl
    simpa using this
  have hLp : 0 < L.length := List.length_pos_iff.2 hL
  have hpn := h.pn
  have fs := h.frm.size
  have hsz := h.sz
  obtain ⟨o', c', w2, r1, r2, r3, r4⟩ := h.pl.add h.pt (fun k hk hp => by have := h.new k hk; have := h.plU k hp; omega) (by omega) (by omega)
  have lkP := h.lt.1
  have nb : ∀ k, k < Y.heap.size → ¬ (Value.slice o n c).ownBlock = some k := fun k hk e => by
    have := (h.pl.lt (.inl e)).1
    omega
  have rk : w2.heap[kP]? = some (.cells #[.slice o n c] 42 (0, 0)) := (r3.blk kP (by omega) (nb kP lkP)).trans h.box
  have e := setCell_eq_setRow w2 kP 0 _ _ _ (.slice o' (n + 1) c') rk
  have oth : ∀ k, k ≠ kP → (w2.setCell ⟨kP, 0, none⟩ (.slice o' (n + 1) c')).heap[k]? = w2.heap[k]? := fun k hk => heap_setCell_other w2 ⟨kP, 0, none⟩ k _ hk
  have sz : (w2.setCell ⟨kP, 0, none⟩ (.slice o' (n + 1) c')).heap.size = w2.heap.size := by simp
  have s3 := r3.size
  refine ⟨o', c', w2, r1, rk, fun k => k = kP ∨ k = b ∨ plB (.slice o' (n + 1) c') (vs ++ [pv]) k, ⟨?_, ?_, ?_, by rw [sz]; omega, fun k hk hx => ?_⟩, fun k hk => ?_, ?_⟩
  · rw [e]; exact r3.os.trans h.frm.os
  · rw [e]; exact r3.tape.trans h.frm.tape
  · rw [e]; exact r3.output.trans h.frm.output
  · refine (oth k fun q => hx ((h.xs k).2 (.inl q))).trans ((r3.blk k (by omega) fun q => hx ((h.xs k).2 (.inr (.inr (.inl q))))).trans (h.frm.blk k hk hx))
  · rw [sz]
    rcases hk with q | q | q | ⟨u, q1, q2⟩
    · exact ⟨.inl ((h.xs k).2 (.inl q)), by omega⟩
    · exact ⟨.inl ((h.xs k).2 (.inr (.inl q))), by have := h.lt.2.1; omega⟩
    · refine ⟨?_, (r2.lt (.inl q)).2⟩
      rcases r4 k q with q | q
      · exact .inl ((h.xs k).2 (.inr (.inr (.inl q))))
      · exact .inr (by omega)
    · refine ⟨?_, (r2.lt (.inr ⟨u, q1, q2⟩)).2⟩
      rcases List.mem_append.1 q1 with q | q
      · exact .inl ((h.xs k).2 (.inr (.inr (.inr ⟨u, q, q2⟩))))
      · rw [List.mem_singleton.1 q] at q2
        exact .inr (h.new k q2)
  · have pk : ∀ k, plB (.slice o' (n + 1) c') (vs ++ [pv]) k → k ≠ kP := fun k hk => by
      have := (r2.lt hk).1
      omega
    refine ⟨by rw [List.length_cons, h.iq], by have := h.kq; rw [if_neg hL] at this; exact this, ?_, r2.keep fun k hk => oth k (pk k hk), h.mks.keep ((oth b (Ne.symm h.lt.2.2)).trans (r3.blk b h.mks.lt (nb b h.lt.2.1))), h.cn, h.cm, h.cl, h.ml, by rw [List.length_append]; omega, fun k => Iff.rfl, fun k hk h1 h2 => (oth k h1).trans ((r3.blk k (by omega) (nb k hk)).trans (h.oth k hk h1 h2)), by rw [sz]; omega, h.lt, ?_, ?_, ?_⟩
    · rw [e, setRow_heap _ _ _ _ _ _ rk]
      rfl
    · rw [e]; exact r3.os.trans h.os
    · rw [e]; exact r3.tape.trans h.tp
    · rw [e]; exact r3.output.trans h.ot
end
end Go.Proofs.Ytibhjkmbbfgnpaa
