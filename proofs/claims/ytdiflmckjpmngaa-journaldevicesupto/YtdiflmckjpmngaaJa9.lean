/- JournalDevices: the law's states. -/
import Derived.Test.YtdiflmckjpmngaaJa8
namespace Go.Proofs.Ytdiflmckjpmngaa
open Go.RowKit
/-- A drawn region with the code's operation and then the document's. -/
structure St3 [Inhabited HoleT] (W A : World) (v vr : Nat) (B : List Nat × List Nat) (s0 s1 : List Sp) (o0 o1 : List Opn) (i j : Nat) (l : Array Bool) (Y : World) : Prop where
  kp : Kp A Y
  ord : l.getD j true = true → l.getD i true = true
  p0 : l.getD i true = false → Pr W v vr B s0 o0 Y
  p1 : l.getD i true = true → l.getD j true = false → Pr W v vr B s1 o0 Y
  p2 : l.getD j true = true → Pr W v vr B s1 o1 Y
theorem St3.bel {hI : Inhabited HoleT} {W A Y : World} {v vr : Nat} {B : List Nat × List Nat} {s0 s1 : List Sp} {o0 o1 : List Opn} {i j : Nat} {l : Array Bool} (h : St3 W A v vr B s0 s1 o0 o1 i j l Y) : Below W.heap.size W Y := by
  cases hi : l.getD i true with
  | false => exact (h.p0 hi).bel
  | true =>
    cases hj : l.getD j true with
    | false => exact (h.p1 hi hj).bel
    | true => exact (h.p2 hj).bel
theorem St3.mv {hI : Inhabited HoleT} {W A Y : World} {v vr : Nat} {B : List Nat × List Nat} {s0 s1 : List Sp} {o0 o1 : List Opn} {i j : Nat} {l : Array Bool} (h : St3 W A v vr B s0 s1 o0 o1 i j l Y) (k : Nat) (hi : k ≠ i) (hj : k ≠ j) : St3 W A v vr B s0 s1 o0 o1 i j (l.setIfInBounds k true) Y := by
  have e1 := gd_ne l k i hi
  have e2 := gd_ne l k j hj
  exact ⟨h.kp, by rw [e1, e2]; exact h.ord, by rw [e1]; exact h.p0, by rw [e1, e2]; exact h.p1, by rw [e2]; exact h.p2⟩
theorem St3.ci {hI : Inhabited HoleT} {W A Y Z : World} {v vr : Nat} {B : List Nat × List Nat} {s0 s1 : List Sp} {o0 o1 : List Opn} {i j : Nat} {l : Array Bool} (h : St3 W A v vr B s0 s1 o0 o1 i j l Y) (hij : i ≠ j) (hu : l.getD i true = false) (hp : Pr W v vr B s1 o0 Z) (hk : Kp Y Z) : St3 W A v vr B s0 s1 o0 o1 i j (l.setIfInBounds i true) Z := by
  have e1 : (l.setIfInBounds i true).getD i true = true := gd_eq l i
  have e2 := gd_ne l i j hij
  have nj : ¬ l.getD j true = true := fun q => ft hu (h.ord q)
  exact ⟨h.kp.trans hk, fun _ => e1, fun q => ft q e1, fun _ _ => hp, by rw [e2]; exact fun q => absurd q nj⟩
theorem St3.cj {hI : Inhabited HoleT} {W A Y Z : World} {v vr : Nat} {B : List Nat × List Nat} {s0 s1 : List Sp} {o0 o1 : List Opn} {i j : Nat} {l : Array Bool} (h : St3 W A v vr B s0 s1 o0 o1 i j l Y) (hij : i ≠ j) (hi : l.getD i true = true) (hp : Pr W v vr B s1 o1 Z) (hk : Kp Y Z) : St3 W A v vr B s0 s1 o0 o1 i j (l.setIfInBounds j true) Z := by
  have e1 := gd_ne l j i (Ne.symm hij)
  have e2 : (l.setIfInBounds j true).getD j true = true := gd_eq l j
  exact ⟨h.kp.trans hk, by rw [e1]; exact fun _ => hi, by rw [e1]; exact fun q => ft q hi, fun _ q => ft q e2, fun _ => hp⟩
theorem St3.start {hI : Inhabited HoleT} {W A : World} {v vr : Nat} {B : List Nat × List Nat} {s0 s1 : List Sp} {o0 o1 : List Opn} {i j n : Nat} (hi : i < n) (hj : j < n) (hp : Pr W v vr B s0 o0 A) {Y : World} (hY : Below A.heap.size A Y) : St3 W A v vr B s0 s1 o0 o1 i j (Array.replicate n false) Y := by
  have a : ∀ k, k < n → (Array.replicate n false).getD k true = false := fun k hk => by
    rw [agetD _ _ _ (by simpa using hk)]
    simp
  exact ⟨kp_below hY, fun q => ft (a j hj) q, fun _ => hp.below hY, fun q => ft (a i hi) q, fun q => ft (a j hj) q⟩
theorem St3.done {hI : Inhabited HoleT} {W A Y : World} {v vr : Nat} {B : List Nat × List Nat} {s0 s1 : List Sp} {o0 o1 : List Opn} {i j n : Nat} (h : St3 W A v vr B s0 s1 o0 o1 i j (Array.replicate n true) Y) (hj : j < n) : Pr W v vr B s1 o1 Y ∧ Kp A Y := by
  refine ⟨h.p2 ?_, h.kp⟩
  rw [agetD _ _ _ (by simpa using hj)]
  simp
theorem St3.q0 {hI : Inhabited HoleT} {W A Y : World} {v vr : Nat} {B : List Nat × List Nat} {s0 s1 : List Sp} {o0 o1 : List Opn} {i j : Nat} {l : Array Bool} (h : St3 W A v vr B s0 s1 o0 o1 i j l Y) : l.getD i true = false → Pr W v vr B s0 o0 Y := h.p0
theorem St3.q1 {hI : Inhabited HoleT} {W A Y : World} {v vr : Nat} {B : List Nat × List Nat} {s0 s1 : List Sp} {o0 o1 : List Opn} {i j : Nat} {l : Array Bool} (h : St3 W A v vr B s0 s1 o0 o1 i j l Y) : l.getD i true = true → l.getD j true = false → Pr W v vr B s1 o0 Y := h.p1
theorem St3.row {hI : Inhabited HoleT} {W A Y : World} {v vr : Nat} {B : List Nat × List Nat} {s0 s1 : List Sp} {o0 o1 : List Opn} {i j : Nat} {l : Array Bool} (h : St3 W A v vr B s0 s1 o0 o1 i j l Y) {g t : Nat} {D : Array Value} (hg : A.heap[g]? = some (.cells D t (0, 0))) (n1 : t ≠ 55) (n2 : t ≠ 52) (n3 : t ≠ 64) (n4 : t ≠ 68) : Y.heap[g]? = some (.cells D t (0, 0)) := (h.kp.block g D t hg n1 n2 n3 n4).trans hg
theorem Pr.qb {hI : Inhabited HoleT} {W w : World} {v vr : Nat} {B : List Nat × List Nat} {sp : List Sp} {os : List Opn} (h : Pr W v vr B sp os w) : Below W.heap.size W w := h.bel
theorem Pr.bw {hI : Inhabited HoleT} {W w w' : World} {v vr : Nat} {B : List Nat × List Nat} {sp : List Sp} {os : List Opn} (h : Pr W v vr B sp os w) (hb : Below w.heap.size w w') : Pr W v vr B sp os w' := h.below hb
/-- An act as it lies. -/
def actA (kd fl : Int) (pv : Value) (n k0 k1 : Int) : Array Value := #[.int .i64 kd, .int .i64 fl, pv, .int .i64 n, .int .i64 k0, .int .i64 k1]
def Acts (W : World) (v : Value) (N : Nat) : Prop := ∃ oa cap, v = .slice oa N cap ∧ N ≤ maxLen ∧ ∀ i, i < N → ∃ g o kd fl pv l n k0 k1, oa = some ⟨g, o, none⟩ ∧ g < W.heap.size ∧ W.rangeAt g (o + i * 6) (actA kd fl pv n k0 k1).toList ∧ Bl W pv l ∧ l.length ≤ 50000000000000 ∧ k0 < 9223372036854775808 ∧ k1 < 9223372036854775808
theorem sizeA : (Try.prog.info? 35).map (·.size) = some 6 := by kernel_rfl
def ldA (p : Value) : Sem Value := Instr.loadAt 35 p
theorem toLdA (p : Value) : Instr.loadAt 35 p = ldA p := rfl
theorem ld_A (w : World) (g o : Nat) (c : Array Value) (hc : c.size = 6) (h : w.rangeAt g o c.toList) : (ldA (.pointer (some ⟨g, o, none⟩))).run Try.prog w = .ok (.agg c) w := by
  have := run_loadAt_mid (P := Try.prog) w g o 35 c.toList _ h Try.underlying35 rfl (by rw [sizeA]; simp [hc])
  simpa [ldA] using this
theorem sizeK : (Try.prog.info? 33).map (·.size) = some 2 := by kernel_rfl
def ldK (p : Value) : Sem Value := Instr.loadAt 33 p
theorem toLdK (p : Value) : Instr.loadAt 33 p = ldK p := rfl
theorem ld_K (w : World) (g : Nat) (a b c d e f : Value) (h : w.heap[g]? = some (.cells #[a, b, c, d, e, f] 35 (0, 0))) : (ldK (.pointer (some ⟨g, 4, none⟩))).run Try.prog w = .ok (.agg #[e, f]) w := by
  have h2 := World.rangeAt_of_block h 4 2
  have := run_loadAt_mid (P := Try.prog) w g 4 33 _ _ h2 Try.underlying33 rfl (by rw [sizeK]; rfl)
  simpa [ldK] using this
theorem run_slh (w : World) (oa : Option Addr) (n c h : Nat) (hh : h ≤ c) : (Instr.sliceAt 25 (.slice oa n c) none (some (.int .i64 (h : Int))) none).run Try.prog w = .ok (.slice oa h c) w := by
  have := run_slice_h (P := Try.prog) w 25 oa n c uB .i64 (h : Int) (by omega) (by omega)
  have e : oa.map (fun a => a.add (0 * 1)) = oa := by
    cases oa with
    | none => rfl
    | some a => obtain ⟨b, o, s⟩ := a; rfl
  simp only [Instr.sliceAt, Sem.run_bind, run_underlying uB, Result.andThen_ok]
  rw [this, elemB, run_size5]
  simp only [Result.andThen, sliced, Int.toNat_natCast, e, Nat.sub_zero, ite_self]
theorem ld5 (w : World) {g o : Nat} {n : Int} (h : w.cell? ⟨g, o, none⟩ = some (.int .u8 n)) : (Instr.loadAt 5 (.pointer (some ⟨g, o, none⟩))).run Try.prog w = .ok (.int .u8 n) w := by simp [h, go_sem]
/-- A copy with one byte behind it. -/
theorem app_new (A : World) (l : List Nat) (hl : l.length ≤ 50000000000000) : ∃ pb pc cur Z, (apB 25 #[.slice (some ⟨A.heap.size, 0, none⟩) l.length l.length, .slice (some ⟨A.heap.size + 1, 0, none⟩) 1 1]).run Try.prog ((A.alloc (.cells (bs l).toArray 5)).alloc (.cells #[.int .u8 90] 5)) = .ok (.slice (some ⟨pb, 0, none⟩) (l.length + 1) pc) Z ∧ Below A.heap.size A Z ∧ A.heap.size ≤ pb ∧ Z.heap[pb]? = some (.cells cur 5 (0, 0)) ∧ cur.toList.take (l.length + 1) = bs l ++ [.int .u8 90] ∧ A.heap.size ≤ pb ∧ l.length + 1 ≤ pc ∧ pc ≤ maxLen := by
  obtain ⟨Y, hY⟩ : ∃ Y, (A.alloc (.cells (bs l).toArray 5)).alloc (.cells #[.int .u8 90] 5) = Y := ⟨_, rfl⟩
  have bY : Below A.heap.size A Y := by rw [← hY]; exact below2 _ _ _
  have r0 : Y.heap[A.heap.size]? = some (.cells (bs l).toArray 5 (0, 0)) := by rw [← hY]; exact row2 _ _ _
  have r1 : Y.heap[A.heap.size + 1]? = some (.cells #[.int .u8 90] 5 (0, 0)) := by rw [← hY]; exact row2n _ _ _
  have hzY : Y.heap.size = A.heap.size + 2 := by rw [← hY]; simp
  rw [hY]
  have oY : Y.ownsRow A.heap.size 5 1 (.slice (some ⟨A.heap.size, 0, none⟩) l.length l.length) l.length (bs l) := ⟨by rw [bs_len]; omega, .inr ⟨A.heap.size, _, _, rfl, Nat.le_refl _, r0, Nat.le_refl _, by unfold maxLen; omega, by simp [bs_len], by rw [Nat.mul_one]; exact List.take_of_length_le (by rw [bs_len]; exact Nat.le_refl _)⟩⟩
  have hu : Bl Y (.slice (some ⟨A.heap.size + 1, 0, none⟩) 1 1) [90] := bl_row (l := [90]) r1 (fun x hx => by simp at hx; omega) (by unfold LIM; simp)
  obtain ⟨v', Z, hr, ho, hg, hat⟩ := run_apB1 Y A.heap.size l.length _ _ _ [90] oY hu (by unfold LIM; simp; omega) (by simp) (by omega)
  rcases ho.2 with ⟨_, h2⟩ | ⟨pb, pc, cur, rfl, h2, h3, h4, h5, h6, h7⟩
  · simp at h2
  · refine ⟨pb, pc, cur, Z, hr, ⟨hg.os.trans bY.os, hg.tape.trans bY.tape, hg.output.trans bY.output, Nat.le_trans bY.size hg.size, fun j hj => (hg.block j (by omega) (fun e => by simp [Value.ownBlock] at e; omega)).trans (bY.block j hj)⟩, h2, h3, ?_, h2, by simpa using h4, h5⟩
    rw [Nat.mul_one] at h7
    exact h7
theorem app_bl {w : World} {g pc : Nat} {cur : Array Value} {l : List Nat} (h : w.heap[g]? = some (.cells cur 5 (0, 0))) (ht : cur.toList.take (l.length + 1) = bs l ++ [.int .u8 90]) (hl : l.length ≤ pc) (hpc : pc ≤ maxLen) (hb : Byt l) : Bl w (.slice (some ⟨g, 0, none⟩) l.length pc) l ∧ w.cell? ⟨g, l.length, none⟩ = some (.int .u8 90) := by
  have k : ∀ (j : Nat) u, (bs l ++ [Value.int .u8 90])[j]? = some u → w.cell? ⟨g, j, none⟩ = some u := fun j u hu => by
    have hj : j < l.length + 1 := by have := (List.getElem?_eq_some_iff.1 hu).1; rw [List.length_append, bs_len] at this; simpa using this
    rw [← ht, List.getElem?_take_of_lt hj] at hu
    rw [cell_of_row _ _ _ _ _ _ h]
    simpa using hu
  refine ⟨⟨some ⟨g, 0, none⟩, pc, rfl, hl, hpc, hb, fun j u hu => ⟨g, 0, rfl, (Array.getElem?_eq_some_iff.1 h).1, ?_⟩⟩, ?_⟩
  · rw [Nat.zero_add]
    exact k j u (by rw [List.getElem?_append_left (List.getElem?_eq_some_iff.1 hu).1]; exact hu)
  · refine k _ _ ?_
    rw [List.getElem?_append_right (by rw [bs_len]; exact Nat.le_refl _), bs_len, Nat.sub_self]
    rfl
/-- The disk of one's own is written over. -/
structure Ow (W : World) (ob g0 g1 n0 n1 lo lr v vr : Nat) (l0 l1 : List Nat) (wr : World) : Prop where
  bel : Below W.heap.size W wr
  own : wr.heap[ob]? = some (.cells #[.slice (some ⟨g0, 0, none⟩) n0 n0, .slice (some ⟨g1, 0, none⟩) n1 n1] 28 (0, 0))
  f0 : ∃ C, wr.heap[g0]? = some (.cells C 5 (0, 0)) ∧ C.size = n0
  f1 : ∃ C, wr.heap[g1]? = some (.cells C 5 (0, 0)) ∧ C.size = n1
  dv : ∃ f, @Dv H0 lo wr v (.slice none 0 0) f [] [((l0, l0.length), (l1, l1.length))]
  ro : @Ro H0 lr wr vr (.slice none 0 0) (l0, l1) ((l0, []), (l1, [])) [] []
  n : W.heap.size ≤ g0 ∧ W.heap.size ≤ g1 ∧ g0 < lo ∧ g1 < lo ∧ lo ≤ lr ∧ W.heap.size ≤ lo ∧ ob ≠ g0 ∧ ob ≠ g1 ∧ lr ≤ wr.heap.size
theorem Dv.low {i : Inhabited HoleT} {lo v : Nat} {W W' : World} {f : Array Value} {ms : List (Array Value)} {sp : List Sp} (h : Dv lo W v (.slice none 0 0) f ms sp) (hs : W'.heap.size = W.heap.size) (hb : ∀ j, lo ≤ j → W'.heap[j]? = W.heap[j]?) : Dv lo W' v (.slice none 0 0) f ms sp :=
  ⟨(hb v h.lov).trans h.row, own_keep h.own (fun g hg => by cases hg), h.len, fun i m s q1 q2 => (h.each i m s q1 q2).keep (fun j hj => hb j hj.1.1) (fun j hj => ⟨hj.1, by rw [hs]; exact hj.2.1, hj.2.2⟩), h.lov, by rw [hs]; exact h.hb⟩
theorem Ro.low {i : Inhabited HoleT} {lo v : Nat} {W W' : World} {B : List Nat × List Nat} {s : Fl × Fl} {xs : List (Array Value)} {os : List Opn} (h : Ro lo W v (.slice none 0 0) B s xs os) (hs : W'.heap.size = W.heap.size) (hb : ∀ j, lo ≤ j → W'.heap[j]? = W.heap[j]?) : Ro lo W' v (.slice none 0 0) B s xs os := by
  have k : ∀ {u l}, Bq (Qd lo W v (.slice none 0 0)) W u l → Bq (Qd lo W' v (.slice none 0 0)) W' u l := fun q => q.keep (fun j hj => hb j hj.1.1) (fun j hj => ⟨hj.1, by rw [hs]; exact hj.2.1, hj.2.2⟩)
  obtain ⟨b0, b1, s0, s1, l0, l1, hr, hb0, hb1, hs0, hs1, hl0, hl1⟩ := h.rw.row
  exact ⟨⟨⟨b0, b1, s0, s1, l0, l1, (hb v h.rw.lov).trans hr, k hb0, k hb1, k hs0, k hs1, k hl0, k hl1⟩, h.rw.lov, h.rw.lims⟩, own_keep h.own (fun g hg => by cases hg), h.len, by rw [hs]; exact h.hb, fun i a o q1 q2 => by
    obtain ⟨pv, e, q⟩ := h.each i a o q1 q2
    exact ⟨pv, e, k q⟩⟩
theorem Ow.set {W wr : World} {ob g0 g1 n0 n1 lo lr v vr : Nat} {l0 l1 : List Nat} (h : Ow W ob g0 g1 n0 n1 lo lr v vr l0 l1 wr) (g n : Nat) (hg : g = g0 ∧ n = n0 ∨ g = g1 ∧ n = n1) (i : Nat) (hi : i < n) : ∃ u, wr.cell? ⟨g, i, none⟩ = some u ∧ wr.frozen? ⟨g, i, none⟩ = false ∧ ∀ x, Ow W ob g0 g1 n0 n1 lo lr v vr l0 l1 (wr.setCell ⟨g, i, none⟩ x) := by
  have hn := h.n
  obtain ⟨C, hC, hCs⟩ : ∃ C, wr.heap[g]? = some (.cells C 5 (0, 0)) ∧ C.size = n := by
    rcases hg with ⟨rfl, rfl⟩ | ⟨rfl, rfl⟩
    · exact h.f0
    · exact h.f1
  have hgl : g < lo ∧ W.heap.size ≤ g ∧ ob ≠ g := by rcases hg with ⟨rfl, rfl⟩ | ⟨rfl, rfl⟩ <;> omega
  refine ⟨C[i], by rw [cell_of_row _ _ _ _ _ _ hC]; exact Array.getElem?_eq_getElem (by omega), frozen_of_row _ _ _ _ _ hC, fun x => ?_⟩
  have oth : ∀ j, j ≠ g → (wr.setCell ⟨g, i, none⟩ x).heap[j]? = wr.heap[j]? := fun j hj => heap_setCell_other _ _ _ _ (by show j ≠ g; exact hj)
  have hs : (wr.setCell ⟨g, i, none⟩ x).heap.size = wr.heap.size := by simp
  have kf : ∀ {g' n' : Nat}, (∃ C, wr.heap[g']? = some (.cells C 5 (0, 0)) ∧ C.size = n') → ∃ C, (wr.setCell ⟨g, i, none⟩ x).heap[g']? = some (.cells C 5 (0, 0)) ∧ C.size = n' := fun {g' n'} ⟨D, q1, q2⟩ => by
    by_cases e : g' = g
    · subst e
      have := hC.symm.trans q1
      injection this with this
      injection this with this
      exact ⟨_, heap_setCell_same _ _ _ _ _ _ hC, by rw [Array.size_setIfInBounds, this, q2]⟩
    · exact ⟨D, (oth g' e).trans q1, q2⟩
  obtain ⟨f, hf⟩ := h.dv
  exact ⟨h.bel.setCell (by show W.heap.size ≤ g; exact hgl.2.1) _, (oth ob hgl.2.2).trans h.own, kf h.f0, kf h.f1, ⟨f, hf.low hs (fun j hj => oth j (by omega))⟩, h.ro.low hs (fun j hj => oth j (by omega)), by rw [hs]; exact hn⟩
theorem Ow.below {W wr w2 : World} {ob g0 g1 n0 n1 lo lr v vr : Nat} {l0 l1 : List Nat} (h : Ow W ob g0 g1 n0 n1 lo lr v vr l0 l1 wr) (hb : Below wr.heap.size wr w2) : Ow W ob g0 g1 n0 n1 lo lr v vr l0 l1 w2 := by
  obtain ⟨f, hf⟩ := h.dv
  obtain ⟨C, q1, q2⟩ := h.f0
  obtain ⟨D, q3, q4⟩ := h.f1
  have hn := h.n
  have := hb.size
  exact ⟨h.bel.trans (hb.mono h.bel.size), (hb.block _ (Array.getElem?_eq_some_iff.1 h.own).1).trans h.own, ⟨C, (hb.block _ (Array.getElem?_eq_some_iff.1 q1).1).trans q1, q2⟩, ⟨D, (hb.block _ (Array.getElem?_eq_some_iff.1 q3).1).trans q3, q4⟩, ⟨f, @Dv.below H0 _ _ _ _ _ _ _ _ hf hb⟩, @Ro.below H0 _ _ _ _ _ _ _ _ _ h.ro hb, by omega⟩
theorem Ow.pr {W wr : World} {ob g0 g1 n0 n1 lo lr v vr : Nat} {l0 l1 : List Nat} (h : Ow W ob g0 g1 n0 n1 lo lr v vr l0 l1 wr) : @Pr H0 W v vr (l0, l1) (spOf (l0, l1) []) [] wr := by
  obtain ⟨f, hf⟩ := h.dv
  have hn := h.n
  have e : spOf (l0, l1) [] = [((l0, l0.length), (l1, l1.length))] := by simp [spOf, stt, lk, lk1]
  exact @Pr.mk H0 _ _ _ _ _ _ _ h.bel ⟨lo, lr, _, f, [], _, [], by rw [e]; exact hf, h.ro, by omega, by omega, by omega, by omega, fun _ => rfl, fun _ => rfl⟩
end Go.Proofs.Ytdiflmckjpmngaa
