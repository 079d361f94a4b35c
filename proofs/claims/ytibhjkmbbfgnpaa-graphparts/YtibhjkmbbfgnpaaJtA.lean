/- Several texts in one: GpN, GpB, GpM, GtM. -/
import Derived.Test.YtibhjkmbbfgnpaaJoC
import Derived.Test.YtibhjkmbbfgnpaaJoB
import Derived.Test.YtibhjkmbbfgnpaaGf
import Derived.Test.YtibhjkmbbfgnpaaGyE
/- Graphs in groups: each node's group. -/
namespace Go.Proofs.Ytibhjkmbbfgnpaa
open Go.RowKit GM Gl
set_option maxRecDepth 20000
/-- Lists of numbers that can be read. -/
structure Pr (o : Option Addr) (n : Nat) (Ps : List (List Nat)) (w : World) : Prop where
  len : Ps.length = n
  rd : ∀ i p, Ps[i]? = some p → ∃ g v gp, o = some ⟨g, 0, none⟩ ∧ w.cell? ⟨g, i, none⟩ = some v ∧ Il gp v p w
theorem Pr.below {o : Option Addr} {n : Nat} {Ps : List (List Nat)} {w w' : World} (h : Pr o n Ps w) (hb : Below w.heap.size w w') : Pr o n Ps w' :=
  ⟨h.len, fun i p hp => by
    obtain ⟨g, v, gp, h1, h2, h3⟩ := h.rd i p hp
    exact ⟨g, v, gp, h1, cell_belowX hb h2, il_bel h3 hb⟩⟩
theorem pr_pl {B n c : Nat} {o : Option Addr} {Ps : List (List Nat)} {vs : List Value} {w : World} (h : Pl B (.slice o n c) n Ps vs w) : Pr o n Ps w :=
  ⟨h.num.symm, fun i p hp => by
    have hi : i < n := by rw [h.num]; exact (List.getElem?_eq_some_iff.1 hp).1
    obtain ⟨g, v, p', gp, h1, h2, h3, h4⟩ := pl_cell h hi
    rw [hp] at h3
    have := Option.some.inj h3
    subst this
    exact ⟨g, v, gp, h1, h2, h4⟩⟩
section
variable {Ps : List (List Nat)} {N i k v : Nat} {nb p : List Nat}
/-- Each node's number, as far as the lists are gone through. -/
structure Nm (N : Nat) (Ps : List (List Nat)) (i k : Nat) (nb : List Nat) : Prop where
  len : nb.length = N
  lo : ∀ j q, j < i → Ps[j]? = some q → ∀ x, x ∈ q → nb.getD x 0 = j
  at' : ∀ q, Ps[i]? = some q → ∀ x, x ∈ q.take k → nb.getD x 0 = i
theorem nm_zero (N : Nat) (Ps : List (List Nat)) : Nm N Ps 0 0 (List.replicate N 0) := ⟨by simp, fun j q h => by omega, fun q _ x h => by simp at h⟩
theorem Nm.step (h : Nm N Ps i k nb) (hp : Ps[i]? = some p) (hk : k < p.length) (hv : p.getD k 0 = v) (hvN : v < N) (hdj : ∀ (a b : Nat) (q r : List Nat), Ps[a]? = some q → Ps[b]? = some r → a ≠ b → ∀ x, x ∈ q → x ∉ r) : Nm N Ps i (k + 1) (nb.set v i) := by
  have hvp : v ∈ p := by rw [← hv]; exact getD_memN hk
  refine ⟨by simp [h.len], fun j q hj hq x hx => ?_, fun q hq x hx => ?_⟩
  · have : x ≠ v := fun e => hdj j i q p hq hp (by omega) x hx (by rw [e]; exact hvp)
    rw [set_getD_ne this]
    exact h.lo j q hj hq x hx
  · rw [hp] at hq
    have := Option.some.inj hq
    subst this
    by_cases e : x = v
    · rw [e]; exact set_getD_same (by rw [h.len]; exact hvN)
    · rw [set_getD_ne e]
      rw [take_snocN hk, List.mem_append, List.mem_singleton, hv] at hx
      exact h.at' p hp x (hx.resolve_right e)
theorem Nm.next (h : Nm N Ps i p.length nb) (hp : Ps[i]? = some p) : Nm N Ps (i + 1) 0 nb := by
  refine ⟨h.len, fun j q hj hq x hx => ?_, fun q _ x hx => by simp at hx⟩
  by_cases e : j = i
  · subst e
    rw [hp] at hq
    have := Option.some.inj hq
    subst this
    exact h.at' p hp x (by rw [List.take_length]; exact hx)
  · exact h.lo j q (by omega) hq x hx
end
attribute [local go_sem ↓] toMkI
set_option maxRecDepth 100000 in
set_option maxHeartbeats 3200000 in
theorem numbersOf_any (w : World) {o : Option Addr} {n c N : Nat} {Ps : List (List Nat)} (h : Pr o n Ps w) (hlt : ∀ p ∈ Ps, ∀ x ∈ p, x < N) (hdj : ∀ (a b : Nat) (q r : List Nat), Ps[a]? = some q → Ps[b]? = some r → a ≠ b → ∀ x, x ∈ q → x ∉ r) (hN : N ≤ 100000) (hn : n ≤ 100000) (hpl : ∀ p ∈ Ps, p.length ≤ N) :
    Calls Try.prog 36 #[.slice o n c, .int .i64 (N : Int)] w fun e w' => ∃ nb, e = .returned (.slice (some ⟨w.heap.size, 0, none⟩) N N) ∧ Nm N Ps n 0 nb ∧ w'.heap[w.heap.size]? = some (.cells (ik nb) 3 (0, 0)) ∧ Below w.heap.size w w' := by
  obtain ⟨W2, r2, row2, b2⟩ := run_mkI w N (by omega)
  obtain ⟨kL, hkL⟩ : ∃ k, w.heap.size = k := ⟨_, rfl⟩
  have H0 : Hid (∃ nb, Nm N Ps 0 0 nb ∧ Lz w kL nb W2) := ⟨_, nm_zero N Ps, by rw [← hkL]; exact ⟨b2, row2⟩⟩
  rw [hkL] at r2
  have HQ := mkHid (And.intro h (And.intro hlt (And.intro hdj (And.intro hN (And.intro hn (And.intro hpl hkL))))))
  clear h hlt hdj hN hn hpl row2 b2
  go_enter Try.func36, Try.ntmps36
  go_wp2_with fail
  go_loopw [14] (fun iv wr => ∃ i : Nat, iv = .int .i64 (i : Int) ∧ i ≤ n ∧ Hid (∃ nb, Nm N Ps i 0 nb ∧ Lz w kL nb wr)) (fun iv _ => n - (intOf iv).toNat)
  case atStart => exact ⟨0, rfl, Nat.zero_le _, H0⟩
  case round =>
    obtain ⟨i, rfl, hi, HI⟩ := hrel
    by_cases hlt' : i < n
    · have i1 := ltI hlt'
      have i0 := geI i
      obtain ⟨h, hlt, hdj, hN, hn, hpl, hkL'⟩ := HQ.out
      obtain ⟨p, hp⟩ : ∃ p, Ps[i]? = some p := ⟨_, List.getElem?_eq_getElem (by rw [h.len]; exact hlt')⟩
      obtain ⟨g, v, gp, rfl, cv, hil⟩ := h.rd i p hp
      obtain ⟨op, cp, rfl, h1⟩ := hil
      obtain ⟨ln, hln⟩ : ∃ m, p.length = m := ⟨_, rfl⟩
      rw [hln] at cv h1
      obtain ⟨nb0, hm0, hz0⟩ := HI.out
      have cv' : wr.cell? ⟨g, i, none⟩ = some (.slice op ln cp) := cell_belowX (hkL' ▸ hz0.bel) cv
      have hw1 := wrapI i (Nat.lt_of_lt_of_le hlt' (Nat.le_trans hn (by decide)))
      have HR := mkHid (And.intro hp (And.intro hln (And.intro h1 hlt')))
      have HI2 := HI
      clear h hlt hdj hN hn hpl hkL' hp cv h1 hln hm0 hz0 hlt' HI
      go_wp2_with fail
      go_loopw [21] (fun jv wr => ∃ k : Nat, jv = .int .i64 (k : Int) ∧ k ≤ ln ∧ Hid (∃ nb, Nm N Ps i k nb ∧ Lz w kL nb wr)) (fun jv _ => ln - (intOf jv).toNat)
      case atStart => exact ⟨0, rfl, Nat.zero_le _, HI2⟩
      case round =>
        obtain ⟨k, rfl, hk, HJ⟩ := hrel
        by_cases hlk : k < ln
        · have k1 := ltI hlk
          have k0 := geI k
          obtain ⟨h, hlt, hdj, hN, hn, hpl, hkL'⟩ := HQ.out
          obtain ⟨hp, hln, h1, hlt'⟩ := HR.out
          obtain ⟨nb, hm, hz⟩ := HJ.out
          obtain ⟨off, e2, hgp, hcc⟩ := h1 (Nat.lt_of_le_of_lt (Nat.zero_le _) hlk)
          subst e2
          obtain ⟨x, hx⟩ : ∃ x, p.getD k 0 = x := ⟨_, rfl⟩
          have cx0 := hcc k hlk
          rw [hx] at cx0
          have cx := cell_belowX (hkL' ▸ hz.bel) cx0
          have hmem := List.mem_of_getElem? hp
          have hxN : x < N := hlt p hmem x (by rw [← hx]; exact getD_memN (by rw [hln]; exact hlk))
          have hst := hm.step hp (by rw [hln]; exact hlk) hx hxN hdj
          have x0 := geI x
          have x1 := ltI hxN
          have cf := (hz.get (j := x) (by rw [hm.len]; exact hxN)).2
          have cc := (hz.get (j := x) (by rw [hm.len]; exact hxN)).1
          obtain ⟨z, hzv⟩ : ∃ z, nb.getD x 0 = z := ⟨_, rfl⟩
          rw [hzv] at cc
          have hw3 := wrapI k (Nat.lt_of_lt_of_le hlk (Nat.le_trans (hln ▸ hpl p hmem) (Nat.le_trans hN (by decide))))
          have HN := mkHid (And.intro hst (And.intro (hz.set x i) hlk))
          clear h hlt hdj hN hn hpl hkL' hp hln h1 hlt' hm hz hgp hcc hx cx0 hmem hxN hst hzv hlk
          go_wp2_with fail
          exact ⟨⟨k + 1, by first | rfl | (rw [hw3]; rfl), HN.out.2.2, ⟨_, HN.out.1, HN.out.2.1⟩⟩, by first | exact measI _ _ HN.out.2.2 | (rw [hw3]; exact measI _ _ HN.out.2.2)⟩
        · have k1 := nltI hlk
          obtain rfl := eqI hk hlk
          obtain ⟨hp, hln, h1, hlt'⟩ := HR.out
          have HN : Hid (∃ nb, Nm N Ps (i + 1) 0 nb ∧ Lz w kL nb wr) := by
            obtain ⟨nb, q1, q2⟩ := HJ.out
            rw [← hln] at q1
            exact ⟨nb, q1.next hp, q2⟩
          have HM := mkHid hlt'
          clear hp hln h1 hlt' hk hlk
          go_wp2_with fail
          exact ⟨⟨i + 1, by first | rfl | (rw [hw1]; rfl), HM.out, HN⟩, by first | exact measI _ _ HM.out | (rw [hw1]; exact measI _ _ HM.out)⟩
    · have i1 := nltI hlt'
      have e := eqI hi hlt'
      have HZ : Hid (∃ nb, Nm N Ps n 0 nb ∧ Lz w kL nb wr) := by
        have := HI
        rw [e] at this
        exact this
      clear e hi hlt' HI
      go_wp2_with fail
      go_ret
      obtain ⟨nb, q1, q2⟩ := HZ.out
      obtain ⟨-, -, -, -, -, -, hkL'⟩ := HQ.out
      subst hkL'
      first | exact ⟨nb, rfl, q1, q2.row, q2.bel⟩ | exact ⟨rfl, nb, q1, q2.row, q2.bel⟩
end Go.Proofs.Ytibhjkmbbfgnpaa

/- Graphs in groups: which groups need which. -/
namespace Go.Proofs.Ytibhjkmbbfgnpaa
open Go.RowKit GM Gl
set_option maxRecDepth 20000
section
variable {F Gd : Nat → List Nat} {nb : List Nat} {N n a k b i j : Nat}
/-- Groups i needs j by a pair that is gone through. -/
def Gbw (F : Nat → List Nat) (nb : List Nat) (a k i j : Nat) : Prop := ∃ x y, (x < a ∧ y ∈ F x ∨ x = a ∧ y ∈ (F a).take k) ∧ nb.getD x 0 = i ∧ nb.getD y 0 = j ∧ i ≠ j
structure Bt (F : Nat → List Nat) (nb : List Nat) (M a k : Nat) (Gd : Nat → List Nat) : Prop where
  me : ∀ i j, i ∈ Gd j ↔ Gbw F nb a k i j
  ln : ∀ j, (Gd j).length ≤ a * M + k
theorem bt_zero (F : Nat → List Nat) (nb : List Nat) (M : Nat) : Bt F nb M 0 0 (fun _ => []) := ⟨fun i j => ⟨fun h => (by cases h), fun ⟨x, y, h, _⟩ => by rcases h with h | h <;> simp at h⟩, fun j => Nat.zero_le _⟩
theorem Bt.skip {M : Nat} (h : Bt F nb M a k Gd) (hk : k < (F a).length) (hb : (F a).getD k 0 = b) (he : nb.getD a 0 = nb.getD b 0) : Bt F nb M a (k + 1) Gd := by
  refine ⟨fun i j => (h.me i j).trans ?_, fun j => by have := h.ln j; omega⟩
  constructor
  · rintro ⟨x, y, q | ⟨q1, q2⟩, r⟩
    · exact ⟨x, y, .inl q, r⟩
    · exact ⟨x, y, .inr ⟨q1, by rw [take_snocN hk]; exact List.mem_append.2 (.inl q2)⟩, r⟩
  · rintro ⟨x, y, q | ⟨q1, q2⟩, r1, r2, r3⟩
    · exact ⟨x, y, .inl q, r1, r2, r3⟩
    · rw [take_snocN hk, List.mem_append, List.mem_singleton, hb] at q2
      rcases q2 with q2 | q2
      · exact ⟨x, y, .inr ⟨q1, q2⟩, r1, r2, r3⟩
      · exact absurd (by rw [← r1, ← r2, q1, q2]; exact he) r3
theorem Bt.add {M : Nat} (h : Bt F nb M a k Gd) (hk : k < (F a).length) (hb : (F a).getD k 0 = b) (he : nb.getD a 0 ≠ nb.getD b 0) : Bt F nb M a (k + 1) (upd Gd (nb.getD b 0) (Gd (nb.getD b 0) ++ [nb.getD a 0])) := by
  refine ⟨fun i j => ?_, fun j => ?_⟩
  · have key : Gbw F nb a (k + 1) i j ↔ Gbw F nb a k i j ∨ (i = nb.getD a 0 ∧ j = nb.getD b 0) := by
      constructor
      · rintro ⟨x, y, q | ⟨q1, q2⟩, r1, r2, r3⟩
        · exact .inl ⟨x, y, .inl q, r1, r2, r3⟩
        · rw [take_snocN hk, List.mem_append, List.mem_singleton, hb] at q2
          rcases q2 with q2 | q2
          · exact .inl ⟨x, y, .inr ⟨q1, q2⟩, r1, r2, r3⟩
          · exact .inr ⟨by rw [← r1, q1], by rw [← r2, q2]⟩
      · rintro (⟨x, y, q | ⟨q1, q2⟩, r⟩ | ⟨q1, q2⟩)
        · exact ⟨x, y, .inl q, r⟩
        · exact ⟨x, y, .inr ⟨q1, by rw [take_snocN hk]; exact List.mem_append.2 (.inl q2)⟩, r⟩
        · exact ⟨a, b, .inr ⟨rfl, by rw [take_snocN hk, hb]; simp⟩, q1.symm, q2.symm, by rw [q1, q2]; exact he⟩
    rw [key, ← h.me i j]
    by_cases e : j = nb.getD b 0
    · rw [e, upd_same, List.mem_append, List.mem_singleton]
      exact ⟨fun q => q.imp id fun r => ⟨r, rfl⟩, fun q => q.imp id And.left⟩
    · rw [upd_other _ _ _ _ e]
      exact ⟨.inl, fun q => q.resolve_right fun r => e r.2⟩
  · by_cases e : j = nb.getD b 0
    · rw [e, upd_same, List.length_append]
      have := h.ln (nb.getD b 0)
      rw [List.length_singleton]
      omega
    · rw [upd_other _ _ _ _ e]
      have := h.ln j
      omega
theorem Bt.next {M : Nat} (h : Bt F nb M a (F a).length Gd) (hM : (F a).length ≤ M) : Bt F nb M (a + 1) 0 Gd := by
  refine ⟨fun i j => (h.me i j).trans ?_, fun j => by have := h.ln j; rw [Nat.add_mul]; omega⟩
  constructor
  · rintro ⟨x, y, q | ⟨q1, q2⟩, r⟩
    · exact ⟨x, y, .inl ⟨by omega, q.2⟩, r⟩
    · rw [List.take_length] at q2
      exact ⟨x, y, .inl ⟨by omega, by rw [q1]; exact q2⟩, r⟩
  · rintro ⟨x, y, q | ⟨q1, q2⟩, r⟩
    · by_cases e : x = a
      · exact ⟨x, y, .inr ⟨e, by rw [List.take_length, ← e]; exact q.2⟩, r⟩
      · exact ⟨x, y, .inl ⟨by omega, q.2⟩, r⟩
    · simp at q2
/-- What each group needs. -/
noncomputable def btw (F : Nat → List Nat) (nb : List Nat) (N n : Nat) : Nat → List Nat := by
  classical
  exact fun i => (List.range n).filter fun j => decide (Gbw F nb N 0 i j)
theorem Bt.done {M : Nat} (h : Bt F nb M N 0 Gd) (n : Nat) : trL Gd n = btw F nb N n := by
  classical
  funext i
  unfold trL btw
  refine List.filter_congr fun j _ => ?_
  rw [decide_eq_decide]
  exact h.me i j
theorem mem_btw : j ∈ btw F nb N n i ↔ j < n ∧ ∃ x y, x < N ∧ y ∈ F x ∧ nb.getD x 0 = i ∧ nb.getD y 0 = j ∧ i ≠ j := by
  classical
  unfold btw
  rw [List.mem_filter, List.mem_range, decide_eq_true_iff]
  constructor
  · rintro ⟨h, x, y, q | ⟨-, q⟩, r⟩
    · exact ⟨h, x, y, q.1, q.2, r⟩
    · simp at q
  · rintro ⟨h, x, y, q1, q2, r⟩
    exact ⟨h, x, y, .inl ⟨q1, q2⟩, r⟩
end
theorem neI {a b : Nat} (h : a ≠ b) : ((a : Int) == (b : Int)) = false := by
  have : ¬ (a : Int) = (b : Int) := by omega
  simpa using this
theorem bw_bound {N a k l : Nat} (h : l ≤ a * N + k) (ha : a < N) (hk : k ≤ N) (hN : N ≤ 8192) : l + 1 ≤ 1073741824 := by
  have : a * N ≤ 8192 * 8192 := Nat.mul_le_mul (by omega) hN
  omega
attribute [local go_sem ↓] toMkV toApI
set_option maxRecDepth 100000 in
set_option maxHeartbeats 6400000 in
theorem between_any (w : World) {g N n kO : Nat} {F : Nat → List Nat} {V : Nat → Value} {nb : List Nat} (h : Rws g N F V w) (hnb : nb.length = N) (rO : w.heap[kO]? = some (.cells (ik nb) 3 (0, 0))) (hnl : ∀ x, x < N → nb.getD x 0 < n) (hF : ∀ v, v < N → ∀ x ∈ F v, x < N) (hl : ∀ v, (F v).length ≤ N) (hN : N ≤ 8192) (hn : n ≤ 8192) :
    Calls Try.prog 37 #[.slice (some ⟨g, 0, none⟩) N N, .slice (some ⟨kO, 0, none⟩) N N, .int .i64 (n : Int)] w fun e w' => ∃ g' V', e = .returned (.slice (some ⟨g', 0, none⟩) n n) ∧ Rws g' n (btw F nb N n) V' w' ∧ Below w.heap.size w w' ∧ w.heap.size ≤ g' := by
  obtain ⟨W1, s1, R1, b1⟩ := run_mkV w n (by omega)
  obtain ⟨gN, hgN⟩ : ∃ gN, w.heap.size = gN := ⟨_, rfl⟩
  have H0 : Hid (∃ Gd U, Bt F nb N 0 0 Gd ∧ Rws gN n Gd U W1 ∧ Below gN w W1) := ⟨_, _, bt_zero F nb N, by rw [← hgN]; exact R1, by rw [← hgN]; exact b1⟩
  rw [hgN] at s1
  obtain ⟨gv, hgv⟩ := rws_ro h
  have HQ := mkHid (And.intro hgv (And.intro hnb (And.intro rO (And.intro hnl (And.intro hF (And.intro hl (And.intro hN (And.intro hn hgN))))))))
  clear h hnb rO hnl hF hl hN hn R1 b1 hgv
  go_enter Try.func37, Try.ntmps37
  go_wp2_with fail
  go_loopw [15] (fun iv wr => ∃ a : Nat, iv = .int .i64 (a : Int) ∧ a ≤ N ∧ Hid (∃ Gd U, Bt F nb N a 0 Gd ∧ Rws gN n Gd U wr ∧ Below gN w wr)) (fun iv _ => N - (intOf iv).toNat)
  case atStart => exact ⟨0, rfl, Nat.zero_le _, H0⟩
  case round =>
    obtain ⟨a, rfl, ha, HI⟩ := hrel
    by_cases hlt : a < N
    · have i1 := ltI hlt
      have i0 := geI a
      obtain ⟨hgv, hnb, rO, hnl, hF, hl, hN, hn, hgN'⟩ := HQ.out
      obtain ⟨y1, y2, -⟩ := hgv a hlt
      obtain ⟨ob, cb, eV, hb⟩ := y2
      obtain ⟨ln, hln⟩ : ∃ m, (F a).length = m := ⟨_, rfl⟩
      rw [hln] at eV hb
      rw [eV] at y1
      obtain ⟨Gd0, U0, h10, h20, h30⟩ := HI.out
      have cv : wr.cell? ⟨g, a, none⟩ = some (.slice ob ln cb) := cell_belowX (hgN' ▸ h30) y1
      have hw1 := wrapI a (Nat.lt_of_lt_of_le hlt (Nat.le_trans hN (by decide)))
      have HR := mkHid (And.intro hlt (And.intro hln hb))
      have HI2 := HI
      clear hgv hnb rO hnl hF hl hN hn hgN' y1 eV hb hln h10 h20 h30 hlt HI
      go_wp2_with fail
      go_loopw [23] (fun jv wr => ∃ k : Nat, jv = .int .i64 (k : Int) ∧ k ≤ ln ∧ Hid (∃ Gd U, Bt F nb N a k Gd ∧ Rws gN n Gd U wr ∧ Below gN w wr)) (fun jv _ => ln - (intOf jv).toNat)
      case atStart => exact ⟨0, rfl, Nat.zero_le _, HI2⟩
      case round =>
        obtain ⟨k, rfl, hk, HJ⟩ := hrel
        by_cases hlk : k < ln
        · have k1 := ltI hlk
          have k0 := geI k
          obtain ⟨hgv, hnb, rO, hnl, hF, hl, hN, hn, hgN'⟩ := HQ.out
          obtain ⟨hlt, hln, hb⟩ := HR.out
          obtain ⟨Gd, U, h1, h2, h3⟩ := HJ.out
          have b3 : Below w.heap.size w wr := hgN' ▸ h3
          obtain ⟨off, e2, hgb, hcc⟩ := hb (Nat.lt_of_le_of_lt (Nat.zero_le _) hlk)
          subst e2
          obtain ⟨b, hbv⟩ : ∃ b, (F a).getD k 0 = b := ⟨_, rfl⟩
          have cb0 := hcc k hlk
          rw [hbv] at cb0
          have cbx := cell_belowX b3 cb0
          have hbF : b ∈ F a := by rw [← hbv]; exact getD_memN (by rw [hln]; exact hlk)
          have hbN := hF a hlt b hbF
          obtain ⟨i, hiv⟩ : ∃ i, nb.getD a 0 = i := ⟨_, rfl⟩
          obtain ⟨j, hjv⟩ : ∃ j, nb.getD b 0 = j := ⟨_, rfl⟩
          have hjn : j < n := by rw [← hjv]; exact hnl b hbN
          have lO : kO < gN := by rw [← hgN']; exact (Array.getElem?_eq_some_iff.1 rO).1
          have rO2 : wr.heap[kO]? = some (.cells (ik nb) 3 (0, 0)) := (h3.block _ lO).trans rO
          have rd : ∀ Z : World, Z.heap[kO]? = some (.cells (ik nb) 3 (0, 0)) → Z.cell? ⟨kO, a, none⟩ = some (.int .i64 (i : Int)) ∧ Z.cell? ⟨kO, b, none⟩ = some (.int .i64 (j : Int)) := fun Z hZ => ⟨by rw [← hiv]; exact (cell_of_row _ _ _ _ _ _ hZ).trans (ik_get _ _ (by rw [hnb]; exact hlt)), by rw [← hjv]; exact (cell_of_row _ _ _ _ _ _ hZ).trans (ik_get _ _ (by rw [hnb]; exact hbN))⟩
          have yA : ∀ q, (wr.drewN q).cell? ⟨kO, a, none⟩ = some (.int .i64 (i : Int)) := fun q => (rd (wr.drewN q) rO2).1
          have yB : ∀ q, (wr.drewN q).cell? ⟨kO, b, none⟩ = some (.int .i64 (j : Int)) := fun q => (rd (wr.drewN q) rO2).2
          have b0 := geI b
          have b1 := ltI hbN
          have j0 := geI j
          have j1 := ltI hjn
          have hw3 := wrapI k (Nat.lt_of_lt_of_le hlk (Nat.le_trans (hln ▸ hl a) (Nat.le_trans hN (by decide))))
          have hkF : k < (F a).length := by rw [hln]; exact hlk
          by_cases hij : i = j
          · subst hij
            have HN := mkHid (And.intro (h1.skip hkF hbv (by rw [hiv, hjv])) (And.intro h2 (And.intro h3 hlk)))
            clear hgv hnb rO hnl hF hl hN hn hgN' hlt hln hb h1 h2 h3 b3 hgb hcc hbv cb0 hbF hbN hiv hjv hjn lO rO2 rd hkF hlk
            go_wp2_with fail
            go_quiet (fail)
            go_wp2_with fail
            obtain ⟨q1, q2, q3, q4⟩ := HN.out
            exact ⟨⟨k + 1, by first | rfl | (rw [hw3]; rfl), q4, ⟨_, _, q1, q2.below (bel_drP wr _), ⟨q3.os, q3.tape, q3.output, q3.size, q3.block⟩⟩⟩, by first | exact measI _ _ q4 | (rw [hw3]; exact measI _ _ q4)⟩
          · have hij2 := neI hij
            have hij3 : ¬ (i : Int) = (j : Int) := by omega
            have hgd := h1.ln j
            have hadd := h1.add hkF hbv (by rw [hiv, hjv]; exact hij)
            rw [hiv, hjv] at hadd
            have HN := mkHid (And.intro hadd (And.intro h2 (And.intro h3 (And.intro hlk (And.intro rO2 (And.intro rd (And.intro lO (And.intro (bw_bound hgd hlt (Nat.le_trans (Nat.le_of_lt hlk) (hln ▸ hl a)) hN) hjn))))))))
            clear hgv hnb rO hnl hF hl hN hn hgN' hlt hln hb h1 h2 h3 b3 hgb hcc hbv cb0 hbF hbN hiv hjv hjn lO rO2 rd hkF hlk hgd hadd
            go_wp2_with fail
            go_quiet (fail)
            go_wp2_with fail
            obtain ⟨D, hD⟩ : ∃ D, (wr.drewN nq).drew = D := ⟨_, rfl⟩
            have bD : Below wr.heap.size wr D := by rw [← hD]; exact bel_drP wr (nq + 1)
            obtain ⟨hadd, h2, h3, hlk, rO2, rd, lO, hbd, hjn⟩ := HN.out
            have RD : Rws gN n Gd U D := h2.below bD
            have rOD : D.heap[kO]? = some (.cells (ik nb) 3 (0, 0)) := (bD.block _ (Array.getElem?_eq_some_iff.1 rO2).1).trans rO2
            obtain ⟨-, o2, c2, hU, -⟩ := own_get (RD.own j hjn)
            obtain ⟨m, hm⟩ : ∃ m, m = (Gd j).length := ⟨_, rfl⟩
            rw [← hm] at hU
            have cU := (RD.cell j hjn).1
            rw [hU] at cU
            obtain ⟨v', W2, sA, cA, fA, RA, bA, oA⟩ := RD.add2 j i hjn (Nat.le_trans hbd (by decide))
            have rO4 : W2.heap[kO]? = some (.cells (ik nb) 3 (0, 0)) := (oA kO (Array.getElem?_eq_some_iff.1 rOD).1 (fun e => by have := ((RD.own j hjn).lt _ e).1; omega)).trans rOD
            rw [hU] at sA cA
            obtain ⟨o3, c3, rfl⟩ : ∃ o3 c3, v' = .slice o3 (m + 1) c3 := by
              have := RA.own j hjn
              rw [upd_same, upd_same, List.length_append, List.length_singleton, ← hm] at this
              exact own_size this
            have rO3 : (D.alloc (.cells #[.int .i64 (i : Int)] 3)).heap[kO]? = some (.cells (ik nb) 3 (0, 0)) := (heap_alloc_old D _ (h := (Array.getElem?_eq_some_iff.1 rOD).1)).trans rOD
            have a1 := rd D rOD
            have a2 := rd _ rO3
            have a3 := rd W2 rO4
            have a11 := a1.1
            have a12 := a1.2
            have a21 := a2.1
            have a22 := a2.2
            have a31 := a3.1
            have a32 := a3.2
            have aU : (D.alloc (.cells #[.int .i64 (i : Int)] 3)).cell? ⟨gN, j, none⟩ = some (.slice o2 m c2) := (World.cell?_of_block (w := D) (a := ⟨gN, j, none⟩) (heap_alloc_old D _ (h := RD.lt))).trans cU
            have HNEW : Hid (∃ Gd U, Bt F nb N a (k + 1) Gd ∧ Rws gN n Gd U (W2.setCell ⟨gN, j, none⟩ (.slice o3 (m + 1) c3)) ∧ Below gN w (W2.setCell ⟨gN, j, none⟩ (.slice o3 (m + 1) c3))) := by
              have b3 : Below gN wr D := by rw [← hD]; exact ⟨rfl, rfl, rfl, Nat.le_refl _, fun _ _ => rfl⟩
              exact ⟨_, _, hadd, RA, (h3.trans b3).trans (bA gN (Nat.le_refl _))⟩
            have HK := mkHid hlk
            clear hadd h2 h3 hlk rO2 rd lO hbd hjn RD rOD hU hm RA bA oA rO3 rO4 a1 a2 a3 bD HN yA yB
            go_region
            go_wp2_with fail
            exact ⟨⟨k + 1, by first | rfl | (rw [hw3]; rfl), HK.out, HNEW⟩, by first | exact measI _ _ HK.out | (rw [hw3]; exact measI _ _ HK.out)⟩
        · have k1 := nltI hlk
          obtain rfl := eqI hk hlk
          obtain ⟨hlt, hln, hb⟩ := HR.out
          have HN : Hid (∃ Gd U, Bt F nb N (a + 1) 0 Gd ∧ Rws gN n Gd U wr ∧ Below gN w wr) := by
            obtain ⟨Gd, U, q1, q2, q3⟩ := HJ.out
            rw [← hln] at q1
            exact ⟨Gd, U, q1.next (HQ.out.2.2.2.2.2.1 a), q2, q3⟩
          have HM := mkHid hlt
          clear hln hb hk hlk hlt
          go_wp2_with fail
          exact ⟨⟨a + 1, by first | rfl | (rw [hw1]; rfl), HM.out, HN⟩, by first | exact measI _ _ HM.out | (rw [hw1]; exact measI _ _ HM.out)⟩
    · have i1 := nltI hlt
      have e := eqI ha hlt
      obtain ⟨Gd, U, q1, q2, q3⟩ := HI.out
      obtain ⟨hgv, hnb, rO, hnl, hF, hl, hN, hn, hgN'⟩ := HQ.out
      rw [e] at q1
      have b3 : Below w.heap.size w wr := hgN' ▸ q3
      have CT := turned_any n hn Gd (fun y _ x hx => by
        obtain ⟨x', y', q | ⟨-, q⟩, r1, r2, r3⟩ := (q1.me x y).1 hx
        · rw [← r1]; exact hnl x' q.1
        · simp at q) (fun y => by
        have := q1.ln y
        have : N * N ≤ 8192 * 8192 := Nat.mul_le_mul hN hN
        omega) gN U wr q2
      rw [q1.done n] at CT
      have HB := mkHid b3
      clear hgv hnb rO hnl hF hl hN hn hgN' q1 q2 q3 b3 e ha hlt HI
      go_wp2_with fail
      refine CT.mono ?_
      rintro e w2 ⟨g', V', rfl, hr, b2, hg⟩
      have HE := mkHid (And.intro hr (And.intro (HB.out.trans (b2.mono HB.out.size)) (Nat.le_trans HB.out.size hg)))
      clear CT hr b2 hg
      go_wp2_with fail
      go_ret
      first | exact ⟨g', V', rfl, HE.out.1, HE.out.2.1, HE.out.2.2⟩ | exact ⟨g', rfl, V', HE.out.1, HE.out.2.1, HE.out.2.2⟩ | exact ⟨g', rfl, ⟨V', HE.out.1⟩, HE.out.2.1, HE.out.2.2⟩
end Go.Proofs.Ytibhjkmbbfgnpaa

/- Graphs in groups: the graph of groups has no cycle (mathematics). -/
namespace Go.Proofs.Ytibhjkmbbfgnpaa
open GM Gl
section
variable {F : Nat → List Nat} {N n : Nat} {Ps : List (List Nat)} {nb p : List Nat} {i j x y z : Nat}
theorem part_rc (h : Part F p) (hx : x ∈ p) (hy : y ∈ p) : Rc F x y := by
  obtain ⟨-, v, hv, hm⟩ := h
  exact ((hm x).1 hx).1.trans ((hm y).1 hy).2
theorem part_in (h : Part F p) (hx : x ∈ p) (h1 : Rc F x y) (h2 : Rc F y x) : y ∈ p := by
  obtain ⟨-, v, hv, hm⟩ := h
  obtain ⟨q1, q2⟩ := (hm x).1 hx
  exact (hm y).2 ⟨h2.trans q1, q2.trans h1⟩
/-- Each node's group, by number. -/
structure Gn (F : Nat → List Nat) (N : Nat) (Ps : List (List Nat)) (nb : List Nat) : Prop where
  scc : Scc F N Ps
  nm : Nm N Ps Ps.length 0 nb
theorem Gn.at (h : Gn F N Ps nb) (hx : x < N) : ∃ p, Ps[nb.getD x 0]? = some p ∧ x ∈ p := by
  obtain ⟨p, hp, hxp⟩ := h.scc.cv x hx
  obtain ⟨i, hi, e⟩ := List.getElem_of_mem hp
  have h1 : Ps[i]? = some p := by rw [List.getElem?_eq_getElem hi, e]
  have := h.nm.lo i p hi h1 x hxp
  exact ⟨p, by rw [this]; exact h1, hxp⟩
theorem Gn.lt (h : Gn F N Ps nb) (hx : x < N) : nb.getD x 0 < Ps.length := by
  obtain ⟨p, hp, -⟩ := h.at hx
  exact (List.getElem?_eq_some_iff.1 hp).1
/-- The same number: they lead to one another. -/
theorem Gn.same (h : Gn F N Ps nb) (hx : x < N) (hy : y < N) : nb.getD x 0 = nb.getD y 0 ↔ Rc F x y ∧ Rc F y x := by
  obtain ⟨p, hp, hxp⟩ := h.at hx
  have hpm := List.mem_of_getElem? hp
  constructor
  · intro e
    obtain ⟨q, hq, hyq⟩ := h.at hy
    rw [← e, hp] at hq
    have := Option.some.inj hq
    subst this
    exact ⟨part_rc (h.scc.pt p hpm) hxp hyq, part_rc (h.scc.pt p hpm) hyq hxp⟩
  · rintro ⟨h1, h2⟩
    have hyp := part_in (h.scc.pt p hpm) hxp h1 h2
    exact (h.nm.lo _ p (h.lt hx) hp y hyp).symm
theorem Gn.tg (h : Gn F N Ps nb) (hF : ∀ v, v < N → ∀ x ∈ F v, x < N) (ht : TG (btw F nb N n) i j) : ∃ x y, x < N ∧ y < N ∧ nb.getD x 0 = i ∧ nb.getD y 0 = j ∧ Rc F x y ∧ ¬ Rc F y x := by
  induction ht with
  | @one i j q =>
    obtain ⟨-, x, y, x1, x2, x3, x4, x5⟩ := mem_btw.1 q
    have hy := hF x x1 y x2
    refine ⟨x, y, x1, hy, x3, x4, Rc.one x2, fun k => x5 ?_⟩
    rw [← x3, ← x4]
    exact (h.same x1 hy).2 ⟨Rc.one x2, k⟩
  | @more i b j q _ ih =>
    obtain ⟨-, x, y, x1, x2, x3, x4, x5⟩ := mem_btw.1 q
    have hy := hF x x1 y x2
    obtain ⟨u, v, u1, v1, u2, v2, uv, nvu⟩ := ih
    have yu := (h.same hy u1).1 (by rw [x4, u2])
    refine ⟨x, v, x1, v1, x3, v2, (Rc.one x2).trans (yu.1.trans uv), fun k => nvu (k.trans ((Rc.one x2).trans yu.1))⟩
/-- No cycle of groups. -/
theorem Gn.nc (h : Gn F N Ps nb) (hF : ∀ v, v < N → ∀ x ∈ F v, x < N) : ¬ TG (btw F nb N n) i i := fun k => by
  obtain ⟨x, y, x1, y1, x2, y2, -, nyx⟩ := h.tg hF k
  exact nyx ((h.same x1 y1).1 (by rw [x2, y2])).2
/-- The other way round, who leads to one another is the same. -/
theorem same_turn {G : Nat → List Nat} (hG : ∀ x y, y ∈ F x ↔ x ∈ G y) : (Rc F x y ∧ Rc F y x) ↔ (Rc G x y ∧ Rc G y x) := by
  rw [rc_turn hG, rc_turn hG]
  exact ⟨fun h => ⟨h.2, h.1⟩, fun h => ⟨h.2, h.1⟩⟩
end
end Go.Proofs.Ytibhjkmbbfgnpaa

/- GraphTurns: mathematics of edges turned. -/
namespace Go.Proofs.Ytibhjkmbbfgnpaa
open GM Gl
theorem mem_nrm {N : Nat} {E : List (Nat × Nat)} {a b : Nat} : (a, b) ∈ nrm N E ↔ a < N ∧ b < N ∧ (a, b) ∈ E := by
  unfold nrm
  rw [List.mem_flatMap]
  constructor
  · rintro ⟨x, hx, h⟩
    rw [List.mem_map] at h
    obtain ⟨y, hy, e⟩ := h
    rw [List.mem_filter, List.mem_range] at hy
    cases e
    exact ⟨List.mem_range.1 hx, hy.1, of_decide_eq_true hy.2⟩
  · rintro ⟨h1, h2, h3⟩
    refine ⟨a, List.mem_range.2 h1, List.mem_map.2 ⟨b, List.mem_filter.2 ⟨List.mem_range.2 h2, decide_eq_true h3⟩, rfl⟩⟩
theorem fm_congr {f g : Nat → List (Nat × Nat)} : ∀ (l : List Nat), (∀ a ∈ l, f a = g a) → l.flatMap f = l.flatMap g
  | [], _ => rfl
  | a :: r, h => by rw [List.flatMap_cons, List.flatMap_cons, h a List.mem_cons_self, fm_congr r fun x hx => h x (List.mem_cons_of_mem _ hx)]
theorem nrm_congr {N : Nat} {E E' : List (Nat × Nat)} (h : ∀ a b, a < N → b < N → ((a, b) ∈ E ↔ (a, b) ∈ E')) : nrm N E = nrm N E' := by
  unfold nrm
  refine fm_congr _ fun a ha => ?_
  congr 1
  refine List.filter_congr fun b hb => ?_
  exact decide_eq_decide.2 (h a b (List.mem_range.1 ha) (List.mem_range.1 hb))
theorem nrm_turn2 (N : Nat) (E : List (Nat × Nat)) : nrm N (trn (nrm N (trn E))) = nrm N E :=
  nrm_congr fun a b ha hb => by
    rw [mem_trn, mem_nrm, mem_trn]
    exact ⟨fun h => h.2.2, fun h => ⟨hb, ha, h⟩⟩
def lxl (p q : Nat × Nat) : Prop := p.1 < q.1 ∨ p.1 = q.1 ∧ p.2 < q.2
theorem nrm_rise (N : Nat) (E : List (Nat × Nat)) : (nrm N E).Pairwise lxl := by
  unfold nrm
  rw [List.pairwise_flatMap]
  constructor
  · intro a _
    rw [List.pairwise_map]
    exact (List.pairwise_lt_range.filter _).imp fun h => .inr ⟨rfl, h⟩
  · refine List.pairwise_lt_range.imp ?_
    intro a b hab x hx y hy
    rw [List.mem_map] at hx hy
    obtain ⟨_, _, rfl⟩ := hx
    obtain ⟨_, _, rfl⟩ := hy
    exact .inl hab
theorem nrm_next {N : Nat} {E : List (Nat × Nat)} {i : Nat} {p q : Nat × Nat} (h1 : (nrm N E)[i]? = some p) (h2 : (nrm N E)[i + 1]? = some q) : lxl p q := by
  obtain ⟨a1, rfl⟩ := List.getElem?_eq_some_iff.1 h1
  obtain ⟨a2, rfl⟩ := List.getElem?_eq_some_iff.1 h2
  exact List.pairwise_iff_getElem.1 (nrm_rise N E) i (i + 1) a1 a2 (Nat.lt_succ_self i)
theorem nrm_fit {N : Nat} {E : List (Nat × Nat)} : ∀ e ∈ nrm N E, e.1 < N ∧ e.2 < N := fun e h => by
  obtain ⟨a, b⟩ := e
  have := mem_nrm.1 h
  exact ⟨this.1, this.2.1⟩
theorem nrm_len {N : Nat} (hN : N ≤ 60) (E : List (Nat × Nat)) : (nrm N E).length ≤ 3600 := by
  rw [← edg_norm]
  have h1 := edg_len (trL (nds E E.length) N) N (fun a => trL_len _ N a) N
  have h2 : N * N ≤ 60 * 60 := Nat.mul_le_mul hN hN
  omega
theorem mem_ndF {N : Nat} {E : List (Nat × Nat)} {x y : Nat} : y ∈ ndF N E x ↔ y < N ∧ (x, y) ∈ E := by
  unfold ndF trL
  rw [List.mem_filter, List.mem_range]
  exact and_congr_right fun _ => by rw [decide_eq_true_iff]; exact nds_all E x y
/-- What the turned graph's nodes need. -/
theorem nd_turn {N : Nat} {E : List (Nat × Nat)} (hE : ∀ e ∈ E, e.1 < N ∧ e.2 < N) (x y : Nat) : y ∈ ndF N E x ↔ x ∈ ndF N (nrm N (trn E)) y := by
  rw [mem_ndF, mem_ndF, mem_nrm, mem_trn]
  constructor
  · rintro ⟨h1, h2⟩
    exact ⟨(hE _ h2).1, h1, (hE _ h2).1, h2⟩
  · rintro ⟨h1, h2, -, h3⟩
    exact ⟨h2, h3⟩
end Go.Proofs.Ytibhjkmbbfgnpaa
