/- Graphs: the parts as they lie, while they are gathered. -/
import Derived.Test.YtibhjkmbbfgnpaaGzB
import Derived.Test.YtibhjkmbbfgnpaaGzC
import Derived.Test.YtibhjkmbbfgnpaaJoA
namespace Go.Proofs.Ytibhjkmbbfgnpaa
open Go.RowKit GM
set_option maxRecDepth 20000
def apP (ty : Nat) (vs : Array Value) : Sem Value := Builtin.append_ #[42, 42] ty vs
theorem toApP (ty : Nat) (vs : Array Value) : Builtin.append_ #[42, 42] ty vs = apP ty vs := rfl
/-- A list of lists of numbers, each in memory of its own. -/
structure Pl (B : Nat) (pv : Value) (n : Nat) (Ps : List (List Nat)) (vs : List Value) (w : World) : Prop where
  row : w.ownsRow B 28 1 pv n vs
  len : vs.length = Ps.length
  own : ∀ (i : Nat) v p, vs[i]? = some v → Ps[i]? = some p → ∃ m, w.ownsRow B 3 1 v m (ik p).toList
  apt : ∀ (i j : Nat) v u k, i ≠ j → vs[i]? = some v → vs[j]? = some u → v.ownBlock = some k → u.ownBlock ≠ some k
section
variable {B n : Nat} {pv : Value} {Ps : List (List Nat)} {vs : List Value} {w w' : World}
theorem pl_nil (w : World) (B : Nat) : Pl B (.slice none 0 0) 0 [] [] w := ⟨World.ownsRow_nil _ _ _ _, rfl, fun i v p h => by simp at h, fun i j v u k _ h => by simp at h⟩
/-- Its blocks. -/
def plB (pv : Value) (vs : List Value) (k : Nat) : Prop := pv.ownBlock = some k ∨ ∃ v, v ∈ vs ∧ v.ownBlock = some k
theorem Pl.one (h : Pl B pv n Ps vs w) {v : Value} (hv : v ∈ vs) : ∃ p m, p ∈ Ps ∧ w.ownsRow B 3 1 v m (ik p).toList := by
  obtain ⟨i, hi, e⟩ := List.getElem_of_mem hv
  have h1 : vs[i]? = some v := by rw [List.getElem?_eq_getElem hi, e]
  have hi2 : i < Ps.length := by rw [← h.len]; exact hi
  have h2 : Ps[i]? = some Ps[i] := List.getElem?_eq_getElem hi2
  obtain ⟨m, hm⟩ := h.own i v _ h1 h2
  exact ⟨_, m, List.getElem_mem hi2, hm⟩
theorem Pl.lt (h : Pl B pv n Ps vs w) {k : Nat} (hk : plB pv vs k) : B ≤ k ∧ k < w.heap.size := by
  rcases hk with q | ⟨v, q1, q2⟩
  · exact h.row.lt k q
  · obtain ⟨p, m, -, ho⟩ := h.one q1
    exact ho.lt k q2
theorem Pl.keep (h : Pl B pv n Ps vs w) (hb : ∀ k, plB pv vs k → w'.heap[k]? = w.heap[k]?) : Pl B pv n Ps vs w' :=
  ⟨own_keep2 h.row fun k hk => hb k (.inl hk), h.len, fun i v p h1 h2 => (h.own i v p h1 h2).imp fun _ hm => own_keep2 hm fun k hk => hb k (.inr ⟨v, List.mem_of_getElem? h1, hk⟩), h.apt⟩
theorem Pl.base {B' : Nat} (h : Pl B pv n Ps vs w) (hB : B' ≤ B) : Pl B' pv n Ps vs w := by
  have q : ∀ {e s n : Nat} {v : Value} {xs : List Value}, w.ownsRow B e s v n xs → w.ownsRow B' e s v n xs := fun {e s n v xs} ho => by
    obtain ⟨h0, h1 | ⟨g, cap, cur, h1, h2, h3⟩⟩ := ho
    · exact ⟨h0, .inl h1⟩
    · exact ⟨h0, .inr ⟨g, cap, cur, h1, Nat.le_trans hB h2, h3⟩⟩
  exact ⟨q h.row, h.len, fun i v p h1 h2 => (h.own i v p h1 h2).imp fun _ hm => q hm, h.apt⟩
theorem Pl.num (h : Pl B pv n Ps vs w) : n = Ps.length := by
  have := h.row.1
  rw [Nat.mul_one] at this
  rw [← this, h.len]
/-- A list more. -/
theorem Pl.add (h : Pl B pv n Ps vs w) {v : Value} {m : Nat} {p : List Nat} (ho : w.ownsRow B 3 1 v m (ik p).toList) (hn : ∀ k, v.ownBlock = some k → ¬ plB pv vs k) (hb : n + 1 ≤ 1000000) (hB : B ≤ w.heap.size) :
    ∃ o' c' w', (apP 42 #[pv, .slice (some ⟨w.heap.size, 0, none⟩) 1 1]).run Try.prog (w.alloc (.cells #[v] 28)) = .ok (.slice o' (n + 1) c') w' ∧ Pl B (.slice o' (n + 1) c') (n + 1) (Ps ++ [p]) (vs ++ [v]) w' ∧ Rm.Frm (fun k => pv.ownBlock = some k) w w' ∧ ∀ k, (Value.slice o' (n + 1) c').ownBlock = some k → pv.ownBlock = some k ∨ w.heap.size ≤ k := by
  obtain ⟨i0, hi0, hz0, hz1, hz2⟩ := info_parts info35
  obtain ⟨ov, cv, rfl⟩ := own_size ho
  obtain ⟨v', w', hr, hw, hg, _, hat⟩ := run_append_own_at (P := Try.prog) (w.alloc (.cells #[.slice ov m cv] 28)) B 42 42 28 i0 _ 1 24 Try.underlying42 hi0 hz0 hz1 hz2 rfl (by omega) pv n _ (h.row.alloc _) ⟨w.heap.size, 0, none⟩ 1 1 [.slice ov m cv] rfl
    (World.news_of_block (cs := #[.slice ov m cv]) (t := 28) (fr := (0, 0)) (heap_alloc_new w _)) (fun u hu => by
      have q := List.mem_singleton.1 hu
      subst q; rfl) (by unfold maxLen; omega) (by omega) (by simp; omega)
  obtain ⟨o', c', rfl⟩ := own_size hw
  have old : ∀ k, k < w.heap.size → ¬ pv.ownBlock = some k → w'.heap[k]? = w.heap[k]? := fun k hk hx => grown_oldR hg k hk hx
  have hz : w.heap.size ≤ w'.heap.size := by have := hg.size; simp at this; omega
  have ty : ∀ {u : Value} {mu : Nat} {q : List Nat}, w.ownsRow B 3 1 u mu (ik q).toList → ∀ k, u.ownBlock = some k → ¬ pv.ownBlock = some k := fun hu k hk hp => by
    obtain ⟨C, hC⟩ := own_tyV hu hk
    obtain ⟨C2, hC2⟩ := own_tyV h.row hp
    rw [hC] at hC2
    injection hC2 with hC2
    injection hC2 with _ hC2
    cases hC2
  refine ⟨o', c', w', hr, ⟨hw, by simp [h.len], fun i u q h1 h2 => ?_, fun i j u x k hij h1 h2 h3 => ?_⟩, ⟨hg.os, hg.tape, hg.output, hz, old⟩, fun k hk => ?_⟩
  · rw [List.getElem?_append] at h1 h2
    by_cases hi : i < vs.length
    · rw [if_pos hi] at h1
      rw [if_pos (by rw [← h.len]; exact hi)] at h2
      obtain ⟨mu, hu⟩ := h.own i u q h1 h2
      exact ⟨mu, own_keep2 hu fun k hk => old k (hu.lt k hk).2 (ty hu k hk)⟩
    · rw [if_neg hi] at h1
      rw [if_neg (by rw [← h.len]; exact hi)] at h2
      rw [← h.len] at h2
      have e : i - vs.length = 0 := by
        have := (List.getElem?_eq_some_iff.1 h1).1
        simpa using this
      rw [e] at h1 h2
      simp at h1 h2
      subst h1 h2
      exact ⟨m, own_keep2 ho fun k hk => old k (ho.lt k hk).2 (ty ho k hk)⟩
  · rw [List.getElem?_append] at h1 h2
    have last : ∀ {i : Nat} {u : Value}, ¬ i < vs.length → [Value.slice ov m cv][i - vs.length]? = some u → i = vs.length ∧ u = .slice ov m cv := fun {i u} hi hu => by
      have := (List.getElem?_eq_some_iff.1 hu).1
      have e : i - vs.length = 0 := by simpa using this
      rw [e] at hu
      simp at hu
      exact ⟨by omega, hu.symm⟩
    by_cases hi : i < vs.length
    · rw [if_pos hi] at h1
      by_cases hj : j < vs.length
      · rw [if_pos hj] at h2
        exact h.apt i j u x k hij h1 h2 h3
      · rw [if_neg hj] at h2
        obtain ⟨-, rfl⟩ := last hj h2
        exact fun q => hn k q (.inr ⟨u, List.mem_of_getElem? h1, h3⟩)
    · rw [if_neg hi] at h1
      obtain ⟨hi2, rfl⟩ := last hi h1
      by_cases hj : j < vs.length
      · rw [if_pos hj] at h2
        exact fun q => hn k h3 (.inr ⟨x, List.mem_of_getElem? h2, q⟩)
      · rw [if_neg hj] at h2
        obtain ⟨hj2, -⟩ := last hj h2
        omega
  · rcases hat with q | q
    · exact .inl (q.symm.trans hk)
    · rw [q] at hk
      have := Option.some.inj hk
      simp at this
      exact .inr (by omega)
end
/-- What lies while the parts are gathered: i of the ended are gone through. -/
structure Cp (Y : World) (F : Nat → List Nat) (N : Nat) (E : List Nat) (kP b i : Nat) (o : Option Addr) (n c : Nat) (Ps : List (List Nat)) (vs : List Value) (M C P Q : List Nat) (X' : Nat → Prop) (U : World) : Prop where
  iq : Q.length = i
  kq : Kq F N E P Q (fun x => x ∈ M) Ps
  box : U.heap[kP]? = some (.cells #[.slice o n c] 42 (0, 0))
  pl : Pl Y.heap.size (.slice o n c) n Ps vs U
  mks : Mks U b M
  cn : C.Nodup
  cm : ∀ x, x ∈ M ↔ x ∈ C
  cl : ∀ x, x ∈ C → x < N
  ml : M.length = C.length
  pn : n ≤ C.length
  xs : ∀ k, X' k ↔ k = kP ∨ k = b ∨ plB (.slice o n c) vs k
  oth : ∀ k, k < Y.heap.size → k ≠ kP → k ≠ b → U.heap[k]? = Y.heap[k]?
  sz : Y.heap.size ≤ U.heap.size
  lt : kP < Y.heap.size ∧ b < Y.heap.size ∧ kP ≠ b
  os : U.os = Y.os
  tp : U.tape = Y.tape
  ot : U.output = Y.output
section
variable {Y U U' w' : World} {F G : Nat → List Nat} {N kP b i n c v m : Nat} {E M C P Q L M' : List Nat} {o : Option Addr} {Ps : List (List Nat)} {vs : List Value} {X' : Nat → Prop} {pv : Value}
theorem Cp.keep (h : Cp Y F N E kP b i o n c Ps vs M C P Q X' U) (hg : Rm.Agr (fun k => k < Y.heap.size ∨ X' k) U U') : Cp Y F N E kP b i o n c Ps vs M C P Q X' U' :=
  have q {k : Nat} (hk : k < Y.heap.size) : U'.heap[k]? = U.heap[k]? := hg.blk k (Nat.lt_of_lt_of_le hk h.sz) (.inl hk)
  ⟨h.iq, h.kq, (q h.lt.1).trans h.box, h.pl.keep fun k hk => hg.blk k (h.pl.lt hk).2 (.inr ((h.xs k).2 (.inr (.inr hk)))), h.mks.keep (q h.lt.2.1), h.cn, h.cm, h.cl, h.ml, h.pn, h.xs, fun k hk h1 h2 => (q hk).trans (h.oth k hk h1 h2), Nat.le_trans h.sz hg.size, h.lt, hg.os.trans h.os, hg.tape.trans h.tp, hg.output.trans h.ot⟩
theorem Cp.lim (h : Cp Y F N E kP b i o n c Ps vs M C P Q X' U) {k : Nat} (hk : X' k) : k < U.heap.size := by
  have := h.sz
  have := h.lt
  rcases (h.xs k).1 hk with q | q | q
  · omega
  · omega
  · exact (h.pl.lt q).2
/-- Of the ended the next. -/
theorem last_of {E P Q : List Nat} {i j v : Nat} (e : E = P ++ Q) (hq : Q.length = i) (hj : j + i + 1 = E.length) (hv : E[j]? = some v) : ∃ P', P = P' ++ [v] := by
  rcases List.eq_nil_or_concat P with h | ⟨P', x, h⟩
  · rw [h] at e
    simp at e
    rw [e] at hj
    omega
  · rw [List.concat_eq_append] at h
    refine ⟨P', ?_⟩
    have hl : j = P'.length := by
      have := congrArg List.length e
      rw [h] at this
      simp at this
      omega
    rw [e, h, hl] at hv
    simp at hv
    rw [h, hv]
/-- Behind the search from the next. -/
structure Cq (Y : World) (F : Nat → List Nat) (N : Nat) (E : List Nat) (kP b i : Nat) (o : Option Addr) (n c : Nat) (Ps : List (List Nat)) (vs : List Value) (C P Q L M' : List Nat) (pv : Value) (m v : Nat) (X' : Nat → Prop) (U w' : World) : Prop where
  iq : Q.length = i
  kq : Kq F N E P (v :: Q) (fun x => x ∈ M') (if L = [] then Ps else Ps ++ [L])
  box : w'.heap[kP]? = some (.cells #[.slice o n c] 42 (0, 0))
  pl : Pl Y.heap.size (.slice o n c) n Ps vs w'
  pt : w'.ownsRow Y.heap.size 3 1 pv m (ik L).toList
  new : ∀ k, pv.ownBlock = some k → U.heap.size ≤ k
  mks : Mks w' b M'
  cn : (C ++ L).Nodup
  cm : ∀ x, x ∈ M' ↔ x ∈ C ++ L
  cl : ∀ x, x ∈ C ++ L → x < N
  ml : M'.length = (C ++ L).length
  pn : n ≤ C.length
  xs : ∀ k, X' k ↔ k = kP ∨ k = b ∨ plB (.slice o n c) vs k
  oth : ∀ k, k < Y.heap.size → k ≠ kP → k ≠ b → w'.heap[k]? = Y.heap[k]?
  sz : Y.heap.size ≤ U.heap.size
  lt : kP < Y.heap.size ∧ b < Y.heap.size ∧ kP ≠ b
  frm : Rm.Frm X' U w'
  os : w'.os = Y.os
  tp : w'.tape = Y.tape
  ot : w'.output = Y.output
  plU : ∀ k, plB (.slice o n c) vs k → k < U.heap.size
theorem Cp.behind (h : Cp Y F N E kP b i o n c Ps vs M C (P ++ [v]) Q X' U) (hE : Ke F N E) (hG : ∀ x y, y ∈ F x ↔ x ∈ G y) (hall : ∀ x, x < N → x ∈ E) (hGl : ∀ v, v < N → ∀ x ∈ G v, x < N)
    (hL : Ae G (fun x => x ∈ M) v L) (hp : w'.ownsRow Y.heap.size 3 1 pv m (ik L).toList) (hm : Mks w' b M') (hM : ∀ x, x ∈ M' ↔ x ∈ M ∨ x ∈ L) (hl : M'.length = M.length + L.length) (hf : Rm.Frm (fun k => k = b) U w') (hn : ∀ k, pv.ownBlock = some k → U.heap.size ≤ k) :
    Cq Y F N E kP b i o n c Ps vs C P Q L M' pv m v X' U w' := by
  have hvE : v ∈ E := by rw [h.kq.e]; simp
  have hb : ∀ k, k < U.heap.size → k ≠ b → w'.heap[k]? = U.heap[k]? := fun k hk hx => hf.blk k hk hx
  have hY := h.sz
  have pb : ∀ k, plB (.slice o n c) vs k → k < U.heap.size ∧ k ≠ b := fun k hk => by
    have := h.pl.lt hk
    have := h.lt.2.1
    exact ⟨by omega, by omega⟩
  refine ⟨h.iq, h.kq.step hE hG hall hGl hL hM, (hb kP (by have := h.lt.1; omega) h.lt.2.2).trans h.box, h.pl.keep fun k hk => hb k (pb k hk).1 (pb k hk).2, hp, hn, hm, ?_, fun x => ?_, fun x hx => ?_, ?_, h.pn, h.xs, fun k hk h1 h2 => (hb k (by omega) h2).trans (h.oth k hk h1 h2), hY, h.lt, hf.wide fun k _ hk => (h.xs k).2 (.inr (.inl hk)), hf.os.trans h.os, hf.tape.trans h.tp, hf.output.trans h.ot, fun k hk => (pb k hk).1⟩
  · rw [List.nodup_append]
    refine ⟨h.cn, hL.nd, fun x hx y hy e => ?_⟩
    subst e
    exact ((hL.mem x).1 hy).2 ((h.cm x).2 hx)
  · rw [hM x, h.cm x, List.mem_append]
  · rcases List.mem_append.1 hx with q | q
    · exact h.cl x q
    · exact ((hL.mem x).1 q).1.lt (hE.lt v hvE) hGl
  · rw [hl, h.ml, List.length_append]
/-- Nothing was found. -/
theorem Cq.empty (h : Cq Y F N E kP b i o n c Ps vs C P Q L M' pv m v X' U w') (hL : L = []) : Cp Y F N E kP b (i + 1) o n c Ps vs M' (C ++ L) P (v :: Q) X' w' :=
  ⟨by rw [List.length_cons, h.iq], by have := h.kq; rw [if_pos hL] at this; exact this, h.box, h.pl, h.mks, h.cn, h.cm, h.cl, h.ml, by rw [List.length_append]; have := h.pn; omega, h.xs, h.oth, Nat.le_trans h.sz h.frm.size, h.lt, h.os, h.tp, h.ot⟩
/-- A part more. -/
theorem Cq.more (h : Cq Y F N E kP b i o n c Ps vs C P Q L M' pv m v X' U w') (hL : L ≠ []) (hN : N ≤ 100000) :
    ∃ o' c' w2, (apP 42 #[.slice o n c, .slice (some ⟨w'.heap.size, 0, none⟩) 1 1]).run Try.prog (w'.alloc (.cells #[pv] 28)) = .ok (.slice o' (n + 1) c') w2 ∧ w2.heap[kP]? = some (.cells #[.slice o n c] 42 (0, 0)) ∧
      ∃ X2 : Nat → Prop, Rm.Frm X' U (w2.setCell ⟨kP, 0, none⟩ (.slice o' (n + 1) c')) ∧ (∀ k, X2 k → (X' k ∨ U.heap.size ≤ k) ∧ k < (w2.setCell ⟨kP, 0, none⟩ (.slice o' (n + 1) c')).heap.size) ∧
        Cp Y F N E kP b (i + 1) o' (n + 1) c' (Ps ++ [L]) (vs ++ [pv]) M' (C ++ L) P (v :: Q) X2 (w2.setCell ⟨kP, 0, none⟩ (.slice o' (n + 1) c')) := by
  have hC : C.length + L.length ≤ N := by
    have := nodup_len N _ h.cn h.cl
    simpa using this
  have hLp : 0 < L.length := List.length_pos_iff.2 hL
  have hpn := h.pn
  have fs := h.frm.size
  have hsz := h.sz
  obtain ⟨o', c', w2, r1, r2, r3, r4⟩ := h.pl.add h.pt (fun k hk hp => by have := h.new k hk; have := h.plU k hp; omega) (by omega) (by omega)
  have lkP := h.lt.1
  have nb : ∀ k, k < Y.heap.size → ¬ (Value.slice o n c).ownBlock = some k := fun k hk e => by
    have := (h.pl.lt (.inl e)).1
    omega
  have rk : w2.heap[kP]? = some (.cells #[.slice o n c] 42 (0, 0)) := (r3.blk kP (by omega) (nb kP lkP)).trans h.box
  have e := setCell_eq_setRow w2 kP 0 _ _ _ (.slice o' (n + 1) c') rk
  have oth : ∀ k, k ≠ kP → (w2.setCell ⟨kP, 0, none⟩ (.slice o' (n + 1) c')).heap[k]? = w2.heap[k]? := fun k hk => heap_setCell_other w2 ⟨kP, 0, none⟩ k _ hk
  have sz : (w2.setCell ⟨kP, 0, none⟩ (.slice o' (n + 1) c')).heap.size = w2.heap.size := by simp
  have s3 := r3.size
  refine ⟨o', c', w2, r1, rk, fun k => k = kP ∨ k = b ∨ plB (.slice o' (n + 1) c') (vs ++ [pv]) k, ⟨?_, ?_, ?_, by rw [sz]; omega, fun k hk hx => ?_⟩, fun k hk => ?_, ?_⟩
  · rw [e]; exact r3.os.trans h.frm.os
  · rw [e]; exact r3.tape.trans h.frm.tape
  · rw [e]; exact r3.output.trans h.frm.output
  · refine (oth k fun q => hx ((h.xs k).2 (.inl q))).trans ((r3.blk k (by omega) fun q => hx ((h.xs k).2 (.inr (.inr (.inl q))))).trans (h.frm.blk k hk hx))
  · rw [sz]
    rcases hk with q | q | q | ⟨u, q1, q2⟩
    · exact ⟨.inl ((h.xs k).2 (.inl q)), by omega⟩
    · exact ⟨.inl ((h.xs k).2 (.inr (.inl q))), by have := h.lt.2.1; omega⟩
    · refine ⟨?_, (r2.lt (.inl q)).2⟩
      rcases r4 k q with q | q
      · exact .inl ((h.xs k).2 (.inr (.inr (.inl q))))
      · exact .inr (by omega)
    · refine ⟨?_, (r2.lt (.inr ⟨u, q1, q2⟩)).2⟩
      rcases List.mem_append.1 q1 with q | q
      · exact .inl ((h.xs k).2 (.inr (.inr (.inr ⟨u, q, q2⟩))))
      · rw [List.mem_singleton.1 q] at q2
        exact .inr (h.new k q2)
  · have pk : ∀ k, plB (.slice o' (n + 1) c') (vs ++ [pv]) k → k ≠ kP := fun k hk => by
      have := (r2.lt hk).1
      omega
    refine ⟨by rw [List.length_cons, h.iq], by have := h.kq; rw [if_neg hL] at this; exact this, ?_, r2.keep fun k hk => oth k (pk k hk), h.mks.keep ((oth b (Ne.symm h.lt.2.2)).trans (r3.blk b h.mks.lt (nb b h.lt.2.1))), h.cn, h.cm, h.cl, h.ml, by rw [List.length_append]; omega, fun k => Iff.rfl, fun k hk h1 h2 => (oth k h1).trans ((r3.blk k (by omega) (nb k hk)).trans (h.oth k hk h1 h2)), by rw [sz]; omega, h.lt, ?_, ?_, ?_⟩
    · rw [e, setRow_heap _ _ _ _ _ _ rk]
      rfl
    · rw [e]; exact r3.os.trans h.os
    · rw [e]; exact r3.tape.trans h.tp
    · rw [e]; exact r3.output.trans h.ot
end
end Go.Proofs.Ytibhjkmbbfgnpaa
