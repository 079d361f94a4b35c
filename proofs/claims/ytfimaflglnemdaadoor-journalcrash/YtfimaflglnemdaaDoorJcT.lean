/- JournalCrash: the law. -/
import Derived.Test.YtfimaflglnemdaaDoorJqT
namespace Go.Proofs.YtfimaflglnemdaaDoor
open Go.RowKit
open JM
set_option maxRecDepth 20000
namespace Dev
/-- A list of lives, as it lies. -/
def Lvs (W : World) (u : Value) (n : Nat) : Prop := ∃ oa cap, u = .slice oa n cap ∧ ∀ i, i < n → ∃ (g o : Nat) (l a k0 k1 : Int) (us : Value) (ss : List (Bool × List (List Nat))), oa = some ⟨g, o, none⟩ ∧ W.cell? ⟨g, o + i * 5, none⟩ = some (.int .i64 l) ∧ W.cell? ⟨g, o + i * 5 + 1, none⟩ = some us ∧ W.cell? ⟨g, o + i * 5 + 2, none⟩ = some (.int .i64 a) ∧ W.cell? ⟨g, o + i * 5 + 3, none⟩ = some (.int .i64 k0) ∧ W.cell? ⟨g, o + i * 5 + 4, none⟩ = some (.int .i64 k1) ∧ Ss W us ss
theorem Lvs.below {W W' : World} {u : Value} {n : Nat} (h : Lvs W u n) (hb : Below W.heap.size W W') : Lvs W' u n := by
  obtain ⟨oa, cap, h1, h2⟩ := h
  refine ⟨oa, cap, h1, fun i hi => ?_⟩
  obtain ⟨g, o, l, a, k0, k1, us, ss, e0, e1, e2, e3, e4, e5, e6⟩ := h2 i hi
  exact ⟨g, o, l, a, k0, k1, us, ss, e0, cell_below hb e1, cell_below hb e2, cell_below hb e3, cell_below hb e4, cell_below hb e5, e6.below hb⟩
/-- All but two blocks stay. -/
structure Kp (kd : Nat) (A w : World) : Prop where
  os : w.os = A.os
  tape : w.tape = A.tape
  output : w.output = A.output
  size : A.heap.size ≤ w.heap.size
  blk : ∀ k, k < A.heap.size → k ≠ kd → k ≠ kd + 1 → w.heap[k]? = A.heap[k]?
theorem Kp.refl (kd : Nat) (A : World) : Kp kd A A := ⟨rfl, rfl, rfl, Nat.le_refl _, fun _ _ _ _ => rfl⟩
theorem Kp.below {kd : Nat} {A w w' : World} (h : Kp kd A w) (hb : Below w.heap.size w w') : Kp kd A w' :=
  ⟨hb.os.trans h.os, hb.tape.trans h.tape, hb.output.trans h.output, Nat.le_trans h.size hb.size, fun k h1 h2 h3 => (hb.block k (Nat.lt_of_lt_of_le h1 h.size)).trans (h.blk k h1 h2 h3)⟩
theorem Kp.set {kd k : Nat} {A w : World} (h : Kp kd A w) (hk : k = kd ∨ k = kd + 1) (D : Array Value) : Kp kd A (w.setRow k D) :=
  ⟨h.os, h.tape, h.output, by rw [size_setRow]; exact h.size, fun j h1 h2 h3 => (setRow_other _ _ _ _ (by omega)).trans (h.blk j h1 h2 h3)⟩
theorem Kp.bel {kd : Nat} {A w : World} (h : Kp kd A w) (hk : kd ≤ A.heap.size) : Below kd A w := ⟨h.os, h.tape, h.output, h.size, fun k hk' => h.blk k (by omega) (by omega) (by omega)⟩
/-- What a life leaves to the next: a disk and its book, in their variables. -/
def LwR (kd : Nat) (A : World) (i : Nat) (w : World) : Prop :=
  ∃ (oa ob : Option Addr) (na ca nb cb : Nat) (u0 u1 : Value) (b : Cr.Bk) (y : Sp), w.heap[kd]? = some (.cells #[.slice oa na ca, .slice ob nb cb] 26 (0, 0)) ∧ w.heap[kd + 1]? = some (.cells (bkA u0 u1 b.last) 30 (0, 0)) ∧ Bl w (.slice oa na ca) y.1.1 ∧ Bl w (.slice ob nb cb) y.2.1 ∧ Cr.Lim y ∧ Cr.Dsk (1 + 30 * i) b y ∧ Ll 0 w u0 b.base ∧ Lb 0 w u1 b.batches ∧ Kp kd A w
theorem LwR.next {kd i g0 n0 g1 n1 la k0 k1 N : Nat} {A X w : World} {v0 v1 : Value} {z : Sp} {C0 C1 : Array Value} (hK : Kp kd A w) (r0 : w.heap[kd]? = some (.cells C0 26 (0, 0))) (r1 : w.heap[kd + 1]? = some (.cells C1 30 (0, 0))) (h : LfP X z k0 k1 0 N g0 n0 g1 n1 v0 v1 la w) (hX : kd + 2 ≤ X.heap.size) (hN : N ≤ 1 + 30 * (i + 1)) :
    LwR kd A (i + 1) ((w.setRow kd #[.slice (some ⟨g0, 0, none⟩) n0 n0, .slice (some ⟨g1, 0, none⟩) n1 n1]).setRow (kd + 1) #[v0, v1, .int .i64 (la : Int)]) := by
  obtain ⟨b, h1, h2, h3, h4, h5, h6, h7, h8, h9, h10⟩ := h
  have sty : Stay 0 (fun t => t = 5 ∨ t = 23 ∨ t = 27) w ((w.setRow kd #[.slice (some ⟨g0, 0, none⟩) n0 n0, .slice (some ⟨g1, 0, none⟩) n1 n1]).setRow (kd + 1) #[v0, v1, .int .i64 (la : Int)]) := fun k c t _ ht hc => by
    have k1 : k ≠ kd := row_ne hc r0 (by rcases ht with rfl | rfl | rfl <;> decide)
    have k2 : k ≠ kd + 1 := row_ne hc r1 (by rcases ht with rfl | rfl | rfl <;> decide)
    exact (setRow_other _ _ _ _ k2).trans (setRow_other _ _ _ _ k1)
  refine ⟨_, _, _, _, _, _, v0, v1, b, _, (setRow_other _ _ _ _ (by omega)).trans (setRow_heap _ _ _ _ _ _ r0), ?_, bl_setR (bl_setR h1 (by omega)) (by omega), bl_setR (bl_setR h2 (by omega)) (by omega), h4, h3.mono hN, h6.keep (fun k c t q1 q2 q3 => sty k c t q1 (q2.elim .inl (fun q => .inr (.inl q))) q3), h7.keep sty, (hK.set (.inl rfl) _).set (.inr rfl) _⟩
  rw [h5]
  exact setRow_heap _ _ _ _ _ _ ((setRow_other _ _ _ _ (by omega)).trans r1)
theorem all3 {a b c : Value} (h0 : a.oneCell' = true) (h1 : b.oneCell' = true) (h2 : c.oneCell' = true) : (#[a, b, c] : Array Value).all (·.oneCell') = true := by simp [h0, h1, h2]
theorem st_Bn (w : World) (D : Array Value) (hD : D.size = 3) (h1 : D.all (·.oneCell') = true) : (stBk (.pointer (some ⟨w.heap.size, 0, none⟩)) (.agg D)).run Tryd.prog (w.alloc (.cells #[.slice none 0 0, .slice none 0 0, .int .i64 0] 30)) = .ok () (w.alloc (.cells D 30)) := by
  exact (st_Bk _ _ zBk D rfl hD h1 (heap_alloc_new _ _)).trans (by rw [World.setRow_alloc_new])
/-- The life that the law takes where it is handed none. -/
def dfW (X : World) : World := (((X.alloc (.cells #[.int .u8 1] 5)).alloc (.cells #[.slice (some ⟨X.heap.size, 0, none⟩) 1 1] 23)).alloc (.cells #[.bool false, .slice (some ⟨X.heap.size + 1, 0, none⟩) 1 1] 32)).alloc (.cells #[.int .i64 500, .slice (some ⟨X.heap.size + 1 + 1, 0, none⟩) 1 1, .int .i64 0, .int .i64 0, .int .i64 0] 36)
theorem dfW_bel (X : World) : Below X.heap.size X (dfW X) := ((below2 X _ _).alloc (by simp; omega) _).alloc (by simp; omega) _
theorem dfW_size (X : World) : (dfW X).heap.size = X.heap.size + 4 := by simp [dfW]
theorem dfW_row (X : World) : (dfW X).heap[X.heap.size]? = some (.cells #[.int .u8 1] 5 (0, 0)) ∧ (dfW X).heap[X.heap.size + 1]? = some (.cells #[.slice (some ⟨X.heap.size, 0, none⟩) 1 1] 23 (0, 0)) ∧ (dfW X).heap[X.heap.size + 1 + 1]? = some (.cells #[.bool false, .slice (some ⟨X.heap.size + 1, 0, none⟩) 1 1] 32 (0, 0)) ∧ (dfW X).heap[X.heap.size + 1 + 1 + 1]? = some (.cells #[.int .i64 500, .slice (some ⟨X.heap.size + 1 + 1, 0, none⟩) 1 1, .int .i64 0, .int .i64 0, .int .i64 0] 36 (0, 0)) := by
  obtain ⟨r0, r1, r2, _⟩ := row3 X (.cells #[.int .u8 1] 5) (.cells #[.slice (some ⟨X.heap.size, 0, none⟩) 1 1] 23) (.cells #[.bool false, .slice (some ⟨X.heap.size + 1, 0, none⟩) 1 1] 32)
  refine ⟨(heap_alloc_old _ _ (h := (Array.getElem?_eq_some_iff.1 r0).1)).trans r0, (heap_alloc_old _ _ (h := (Array.getElem?_eq_some_iff.1 r1).1)).trans r1, (heap_alloc_old _ _ (h := (Array.getElem?_eq_some_iff.1 r2).1)).trans r2, ?_⟩
  have := heap_alloc_new (((X.alloc (.cells #[.int .u8 1] 5)).alloc (.cells #[.slice (some ⟨X.heap.size, 0, none⟩) 1 1] 23)).alloc (.cells #[.bool false, .slice (some ⟨X.heap.size + 1, 0, none⟩) 1 1] 32)) (.cells #[.int .i64 500, .slice (some ⟨X.heap.size + 1 + 1, 0, none⟩) 1 1, .int .i64 0, .int .i64 0, .int .i64 0] 36)
  rwa [show (((X.alloc (.cells #[.int .u8 1] 5)).alloc (.cells #[.slice (some ⟨X.heap.size, 0, none⟩) 1 1] 23)).alloc (.cells #[.bool false, .slice (some ⟨X.heap.size + 1, 0, none⟩) 1 1] 32)).heap.size = X.heap.size + 1 + 1 + 1 by simp] at this
theorem dfW_lvs (X w : World) (h : ∀ k, X.heap.size ≤ k → k < X.heap.size + 4 → w.heap[k]? = (dfW X).heap[k]?) : Lvs w (.slice (some ⟨X.heap.size + 1 + 1 + 1, 0, none⟩) 1 1) 1 := by
  obtain ⟨t0, t1, t2, t3⟩ := dfW_row X
  have r0 := (h _ (Nat.le_refl _) (by omega)).trans t0
  have r1 := (h _ (by omega) (by omega)).trans t1
  have r2 := (h _ (by omega) (by omega)).trans t2
  have r3 := (h _ (by omega) (by omega)).trans t3
  refine ⟨_, _, rfl, fun i hi => ?_⟩
  obtain rfl : i = 0 := by omega
  refine ⟨_, 0, _, _, _, _, _, [(false, [[1]])], rfl, (cell_of_row _ _ _ _ _ _ r3).trans rfl, (cell_of_row _ _ _ _ _ _ r3).trans rfl, (cell_of_row _ _ _ _ _ _ r3).trans rfl, (cell_of_row _ _ _ _ _ _ r3).trans rfl, (cell_of_row _ _ _ _ _ _ r3).trans rfl, ?_⟩
  refine ⟨_, _, rfl, by simp, by unfold maxLen; decide, fun i hi => ?_⟩
  obtain rfl : i = 0 := by simpa using hi
  refine ⟨_, 0, _, rfl, (cell_of_row _ _ _ _ _ _ r2).trans rfl, (cell_of_row _ _ _ _ _ _ r2).trans rfl, ?_, fun y hy => ?_⟩
  · refine ⟨_, _, rfl, Nat.le_refl _, by unfold maxLen; decide, fun i hi => ?_⟩
    match i, hi with
    | 0, _ => exact ⟨_, _, _, rfl, (cell_of_row _ _ _ _ _ _ r1).trans rfl, bl_row (l := [1]) r0 (fun y hy => by simp at hy; omega) (by unfold maxLen; decide)⟩
  · obtain rfl : y = [1] := by simpa using hy
    unfold Go.Proofs.YtfimaflglnemdaaDoor.LIM
    simp
attribute [local go_sem ↓] toStD toStBk in
set_option maxRecDepth 100000 in
set_option maxHeartbeats 6400000 in
theorem crash_any {u : Value} {n : Nat} (W : World) (hU : Lvs W u n) (hT : Tc W) :
    Calls Tryd.prog 3 #[u] W fun e w' => e = .returned (.bool true) ∧ Below W.heap.size W w' := by
  obtain ⟨oa, cap, rfl, -⟩ := id hU
  obtain ⟨A, hA⟩ : ∃ A, (W.alloc (.cells #[.slice none 0 0, .slice none 0 0] 26)).alloc (.cells #[.slice none 0 0, .slice none 0 0, .int .i64 0] 30) = A := ⟨_, rfl⟩
  have bA : Below W.heap.size W A := by rw [← hA]; exact below2 _ _ _
  have r0 : A.heap[W.heap.size]? = some (.cells #[.slice none 0 0, .slice none 0 0] 26 (0, 0)) := by rw [← hA]; exact row2 _ _ _
  have r1 : A.heap[W.heap.size + 1]? = some (.cells #[.slice none 0 0, .slice none 0 0, .int .i64 0] 30 (0, 0)) := by rw [← hA]; exact row2n _ _ _
  have zA : A.heap.size = W.heap.size + 2 := by rw [← hA]; simp
  have st1 := st_Dn W #[.slice none 0 0, .slice none 0 0] rfl (by simp [Value.oneCell'])
  have st2 := st_Bn (W.alloc (.cells #[.slice none 0 0, .slice none 0 0] 26)) #[.slice none 0 0, .slice none 0 0, .int .i64 0] rfl (by simp [Value.oneCell'])
  have hz2 : (W.alloc (.cells #[.slice none 0 0, .slice none 0 0] 26)).heap.size = W.heap.size + 1 := by simp
  rw [hz2] at st2
  obtain ⟨kd, hkd⟩ : ∃ kd, W.heap.size = kd := ⟨_, rfl⟩
  have HT := mkHid hT
  have HA := mkHid (And.intro bA (And.intro r0 (And.intro r1 zA)))
  have HU := mkHid hU
  clear bA r0 r1 zA hU hT hz2
  have hAH := mkHid hA
  clear hA
  replace hkd := mkHid hkd
  by_cases hn : n = 0
  · subst hn
    go_enter Tryd.func3, Tryd.ntmps3
    go_upto_region 4 with fail
    try rw [hAH.out]
    clear st1 st2
    obtain ⟨A4, hA4⟩ : ∃ A4, dfW A = A4 := ⟨_, rfl⟩
    have hzA : Hid (A.heap.size = kd + 2) := by rw [← hkd.out]; exact HA.out.2.2.2
    have bd4 : Below A.heap.size A A4 := by rw [← hA4]; exact dfW_bel A
    have z4 : A4.heap.size = A.heap.size + 4 := by rw [← hA4]; exact dfW_size A
    have HLV := mkHid (show ∀ w, Kp kd A4 w → Lvs w (.slice (some ⟨A.heap.size + 1 + 1 + 1, 0, none⟩) 1 1) 1 ∧ Tc w ∧ kd + 2 ≤ A4.heap.size ∧ Below W.heap.size W w from fun w hk => by
      have z := hzA.out
      have b := hk.bel (by omega)
      have bW4 : Below W.heap.size W A4 := HA.out.1.trans (bd4.mono HA.out.1.size)
      have bw : Below W.heap.size W w := by
        rw [← hkd.out] at b
        exact bW4.trans b
      refine ⟨dfW_lvs A w (fun k h1 h2 => ?_), HT.out.below bw HT.out.sz, by omega, bw⟩
      rw [hA4]
      exact hk.blk k (by omega) (by omega) (by omega))
    have HS : Hid (LwR kd A4 0 A4) := by
      have z := hzA.out
      have r0 := (bd4.block _ (by rw [hkd.out, z]; omega)).trans HA.out.2.1
      have r1 := (bd4.block _ (by rw [hkd.out, z]; omega)).trans HA.out.2.2.1
      rw [hkd.out] at r0 r1
      exact ⟨_, _, _, _, _, _, _, _, ⟨[], [], 0⟩, (([], 0), ([], 0)), r0, r1, bl_none _, bl_none _, ⟨Nat.zero_le _, Nat.zero_le _⟩, .inl ⟨⟨rfl, 0, by omega, rfl⟩, rfl⟩, Ll.nil _ _, Lb.nil _ _, Kp.refl _ _⟩
    clear bd4 z4
    unfold dfW at hA4
    rw [hkd.out]
    go_upto_region 5 with fail
    try rw [hA4]
    clear hA4
    obtain ⟨kr, hkr⟩ : ∃ kr, A.heap.size + 1 + 1 + 1 = kr := ⟨_, rfl⟩
    rw [hkr] at HLV
    try rw [hkr]
    clear hkr hzA
    go_wp2_with fail
    go_loopw [5] (fun iv wr => ∃ i : Nat, iv = .int .i64 (i : Int) ∧ i ≤ min 1 6 ∧ Hid (LwR kd A4 i wr)) (fun iv _ => min 1 6 - (intOf iv).toNat)
    case atStart => exact ⟨0, rfl, Nat.zero_le _, HS⟩
    case round =>
      obtain ⟨i, rfl, hi, HI⟩ := hrel
      by_cases hlt : i < min 1 6
      case neg =>
        have hBW := mkHid (HLV.out wr (by obtain ⟨_, _, _, _, _, _, _, _, _, _, -, -, -, -, -, -, -, -, hK⟩ := HI.out; exact hK)).2.2.2
        by_cases hi1 : (i : Int) < (1 : Int)
        · have hi6 : ¬ (i : Int) < 6 := by omega
          go_wp2_with fail
          go_ret
          exact ⟨rfl, hBW.out⟩
        · go_wp2_with fail
          go_ret
          exact ⟨rfl, hBW.out⟩
      have hi1 : (i : Int) < (1 : Int) := by omega
      have hi6 : (i : Int) < 6 := by omega
      have hi0 : (0 : Int) ≤ (i : Int) := by omega
      obtain ⟨oa1, ob1, na, ca, nb, cb, u0, u1, b, y, q0, q1, q2, q3, q4, q5, q6, q7, hK⟩ := HI.out
      obtain ⟨hL, hTw, hkA, hBW⟩ := HLV.out wr hK
      obtain ⟨oa', cap', e0, h2⟩ := hL
      injection e0 with e0 el ec
      clear el
      subst e0 ec
      obtain ⟨g, o, l, a, k0, k1, us, ss, eq9, e1, e2, e3, e4, e5, hS⟩ := h2 i (by omega)
      injection eq9 with eq9
      injection eq9 with eqa eqb _
      subst eqa eqb
      rw [Nat.zero_add] at e1 e2 e3 e4 e5
      obtain ⟨ous, cus, rfl⟩ := hS.sl
      obtain ⟨o4, c4, e6⟩ := q6.sl
      obtain ⟨o5, c5, e7⟩ := q7.sl
      subst e6 e7
      obtain ⟨lst, hlst⟩ : ∃ m, b.last = m := ⟨_, rfl⟩
      obtain ⟨nb4, hnb4⟩ : ∃ m, b.base.length = m := ⟨_, rfl⟩
      obtain ⟨nb5, hnb5⟩ : ∃ m, b.batches.length = m := ⟨_, rfl⟩
      obtain ⟨nss, hnss⟩ : ∃ m, ss.length = m := ⟨_, rfl⟩
      obtain ⟨w1, hw1⟩ : ∃ w1, wr.alloc (.cells (lifG l (.slice ous ss.length cus) a k0 k1) 36) = w1 := ⟨_, rfl⟩
      have b1 : Below wr.heap.size wr w1 := by rw [← hw1]; exact (Below.refl _ wr).alloc (Nat.le_refl _) _
      have rl : w1.heap[wr.heap.size]? = some (.cells (lifG l (.slice ous ss.length cus) a k0 k1) 36 (0, 0)) := by rw [← hw1]; exact heap_alloc_new _ _
      obtain ⟨kl, hkl⟩ : ∃ kl, wr.heap.size = kl := ⟨_, rfl⟩
      rw [hkl] at rl
      have C1 := lived_anyH (l := l) (a := a) (k0 := k0) (k1 := k1) (B := 0) w1 (hS.below b1) (hTw.below b1 hTw.sz) (q2.below b1) (q3.below b1) q4 q5 (q6.keep (stay_below b1)) (q7.keep (stay_below b1)) (Nat.zero_le _) (by omega) (by omega)
      have q1b := q1
      unfold bkA at C1 q1b
      unfold lifG at C1 hw1 rl
      rw [hlst, hnb4, hnb5, hnss] at C1
      rw [hlst, hnb4, hnb5] at q1b
      rw [hnss] at hw1 rl e2
      have f0 : w1.cell? ⟨kd, 0, none⟩ = some (.slice oa1 na ca) := cell_below b1 ((cell_of_row _ _ _ _ _ _ q0).trans rfl)
      have f1 : w1.cell? ⟨kd, 1, none⟩ = some (.slice ob1 nb cb) := cell_below b1 ((cell_of_row _ _ _ _ _ _ q0).trans rfl)
      have f2 : w1.cell? ⟨kd + 1, 0, none⟩ = some (.slice o4 nb4 c4) := cell_below b1 ((cell_of_row _ _ _ _ _ _ q1b).trans rfl)
      have f3 : w1.cell? ⟨kd + 1, 1, none⟩ = some (.slice o5 nb5 c5) := cell_below b1 ((cell_of_row _ _ _ _ _ _ q1b).trans rfl)
      have f4 : w1.cell? ⟨kd + 1, 2, none⟩ = some (.int .i64 (lst : Int)) := cell_below b1 ((cell_of_row _ _ _ _ _ _ q1b).trans rfl)
      have g0 : w1.cell? ⟨kl, 0, none⟩ = some (.int .i64 l) := (cell_of_row _ _ _ _ _ _ rl).trans rfl
      have g1 : w1.cell? ⟨kl, 1, none⟩ = some (.slice ous nss cus) := (cell_of_row _ _ _ _ _ _ rl).trans rfl
      have g2 : w1.cell? ⟨kl, 2, none⟩ = some (.int .i64 a) := (cell_of_row _ _ _ _ _ _ rl).trans rfl
      have g3 : w1.cell? ⟨kl, 3, none⟩ = some (.int .i64 k0) := (cell_of_row _ _ _ _ _ _ rl).trans rfl
      have g4 : w1.cell? ⟨kl, 4, none⟩ = some (.int .i64 k1) := (cell_of_row _ _ _ _ _ _ rl).trans rfl
      have HP := mkHid (And.intro hK (And.intro q0 (And.intro q1 (And.intro b1 (And.intro hkA hTw)))))
      replace C1 := mkHid C1
      replace hw1 := mkHid hw1
      replace hkl := mkHid hkl
      clear hK q0 q1 q1b q2 q3 q4 q5 q6 q7 hlst hnb4 hnb5 hnss b1 rl hS h2 hBW hkA hTw HI
      go_upto_region 9 with fail
      rw [hw1.out, hkl.out]
      go_wp2_with fail
      refine C1.out.mono ?_
      rintro e w2 ⟨lo, j, v, cv, bv, rfl, hX⟩
      clear C1 e1 e2 e3 e4 e5 f0 f1 f2 f3 f4 g0 g1
      obtain ⟨sp, cs, bks, gc, gb, n2, cap1, cap2, hF, rfl, rfl, hcs, b12⟩ := Cr.Lft.of hX
      clear hX
      letI := hJ j
      obtain ⟨m0, hm0, hm0b⟩ := and_mask k0 65535 (by decide)
      obtain ⟨m1, hm1, hm1b⟩ := and_mask k1 65535 (by decide)
      rw [show ((65535 : Nat) : Int) = 65535 from rfl] at hm0 hm1
      have g2 := cell_below b12 g2
      have g3 := cell_below b12 g3
      have g4 := cell_below b12 g4
      obtain ⟨w3, hw3⟩ : ∃ w3, w2.alloc (.cells #[.int .i64 (m0 : Int), .int .i64 (m1 : Int)] 34) = w3 := ⟨_, rfl⟩
      have b23 : Below w2.heap.size w2 w3 := by rw [← hw3]; exact (Below.refl _ w2).alloc (Nat.le_refl _) _
      have rk : w3.heap[w2.heap.size]? = some (.cells #[.int .i64 (m0 : Int), .int .i64 (m1 : Int)] 34 (0, 0)) := by rw [← hw3]; exact heap_alloc_new _ _
      obtain ⟨kk, hkk⟩ : ∃ kk, w2.heap.size = kk := ⟨_, rfl⟩
      rw [hkk] at rk
      have g2 := cell_below b23 g2
      have c0 : w3.cell? ⟨kk, 0, none⟩ = some (.int .i64 (m0 : Int)) := (cell_of_row _ _ _ _ _ _ rk).trans rfl
      have c1 : w3.cell? ⟨kk, 1, none⟩ = some (.int .i64 (m1 : Int)) := (cell_of_row _ _ _ _ _ _ rk).trans rfl
      have hF3 := hF.below b23
      have b13 : Below w1.heap.size w1 w3 := b12.trans (b23.mono b12.size)
      obtain ⟨cnt, hcnt⟩ : ∃ m, sp.length - 1 = m := ⟨_, rfl⟩
      have hspos := hF.hst.spos
      have hspf := hF.few
      have hcc := hF.cfew
      obtain ⟨N3, hN3⟩ : ∃ m, 1 + 30 * i + 30 = m := ⟨_, rfl⟩
      rw [hN3] at hF3
      have HQ := mkHid (And.intro hF3 (And.intro b13 (And.intro c0 (And.intro c1 (And.intro g2 (And.intro hcs hN3))))))
      have HCn := mkHid (show ∀ w, Below w3.heap.size w3 w → Calls Tryd.prog 9 #[.pointer (some ⟨v, 0, none⟩)] w fun e w' => e = .returned (.int .i64 (cnt : Int)) ∧ w' = w from fun w hb => by
        obtain ⟨lv, f, ms, hdv⟩ := (hF3.below hb).dv
        have := hdv.len
        rw [← hcnt, show sp.length - 1 = ms.length by omega]
        exact count_any hdv)
      have hkkH := mkHid hkk
      have hw3H := mkHid hw3
      have hsl := mkHid (And.intro hspos (And.intro hspf (And.intro hcnt hcc)))
      clear hF hF3 b12 b23 rk g2 c0 c1 hcs hN3 hcc b13 hkk hw3
      go_upto_region 14 with fail
      rw [hw3H.out, hkkH.out]
      clear g3 g4 hm0 hm1
      go_wp2_with fail
      go_loopw [12, 10] (fun tv ov wq => ∃ t : Nat, tv = .int .i64 (t : Int) ∧ ov = .bool true ∧ t ≤ cnt + 1 ∧ Hid (Below w3.heap.size w3 wq)) (fun tv _ _ => cnt + 1 - (intOf tv).toNat)
      case atStart => exact ⟨0, rfl, rfl, Nat.zero_le _, Below.refl _ _⟩
      case round =>
        obtain ⟨t, rfl, rfl, ht, HB⟩ := hrel
        have CC := HCn.out _ HB.out
        by_cases hts : t ≤ cnt
        case pos =>
          have hts2 : (t : Int) ≤ (cnt : Int) := by omega
          go_wp2_with fail
          refine CC.mono ?_
          rintro e w4 ⟨rfl, hw4⟩
          subst hw4
          clear CC
          go_wp2_with fail
          go_loopw [13, 10] (fun kv ov wq => ∃ k : Nat, kv = .int .i64 (k : Int) ∧ ov = .bool true ∧ k ≤ 3 ∧ Hid (Below w3.heap.size w3 wq)) (fun kv _ _ => 3 - (intOf kv).toNat)
          case atStart => exact ⟨0, rfl, rfl, Nat.zero_le _, HB⟩
          case round =>
            clear HB
            obtain ⟨k, rfl, rfl, hk, HB⟩ := hrel
            by_cases hk3 : k < 3
            · have hk3i : (k : Int) < 3 := by omega
              obtain ⟨L0, hL0⟩ : ∃ m, m0 * k = m := ⟨_, rfl⟩
              obtain ⟨L1, hL1⟩ : ∃ m, m1 * (2 - k) = m := ⟨_, rfl⟩
              have hb0 : L0 ≤ 65535 * 2 := by rw [← hL0]; exact Nat.mul_le_mul hm0b (by omega)
              have hb1 : L1 ≤ 65535 * 2 := by rw [← hL1]; exact Nat.mul_le_mul hm1b (by omega)
              have p0 : IntKind.i64.wrap ((m0 : Int) * (k : Int)) = (L0 : Int) := by rw [← Int.natCast_mul, hL0, IntKind.wrap_i64]; omega
              have p1 : IntKind.i64.wrap (2 - (k : Int)) = ((2 - k : Nat) : Int) := by rw [IntKind.wrap_i64]; omega
              have p2 : IntKind.i64.wrap ((m1 : Int) * ((2 - k : Nat) : Int)) = (L1 : Int) := by rw [← Int.natCast_mul, hL1, IntKind.wrap_i64]; omega
              have hz : sp[t]? = some sp[t] := List.getElem?_eq_getElem (by have := hsl.out; omega)
              have c0 := cell_below HB.out HQ.out.2.2.1
              have c1 := cell_below HB.out HQ.out.2.2.2.1
              obtain ⟨w5, hw5⟩ : ∃ w5, wr.alloc (.cells #[.int .i64 (L0 : Int), .int .i64 (L1 : Int)] 34) = w5 := ⟨_, rfl⟩
              have b5 : Below wr.heap.size wr w5 := by rw [← hw5]; exact (Below.refl _ wr).alloc (Nat.le_refl _) _
              have r5 : w5.heap[wr.heap.size]? = some (.cells #[.int .i64 (L0 : Int), .int .i64 (L1 : Int)] 34 (0, 0)) := by rw [← hw5]; exact heap_alloc_new _ _
              obtain ⟨k5, hk5⟩ : ∃ k5, wr.heap.size = k5 := ⟨_, rfl⟩
              rw [hk5] at r5
              have c50 : w5.cell? ⟨k5, 0, none⟩ = some (.int .i64 (L0 : Int)) := (cell_of_row _ _ _ _ _ _ r5).trans rfl
              have c51 : w5.cell? ⟨k5, 1, none⟩ = some (.int .i64 (L1 : Int)) := (cell_of_row _ _ _ _ _ _ r5).trans rfl
              have b35 : Below w3.heap.size w3 w5 := HB.out.trans (b5.mono HB.out.size)
              have C5 := mkHid (left_any (cap1 := cap1) (cap2 := cap2) w5 (HQ.out.1.below b35) HQ.out.2.2.2.2.2.1 hz (kk0 := L0) (kk1 := L1) (by omega) (by omega))
              have HB5 := mkHid b35
              have hw5H := mkHid hw5
              have hk5H := mkHid hk5
              clear hz hL0 hL1 hb0 hb1 hw5 hk5 b5 r5 b35
              go_upto_region 20 with fail
              rw [hw5H.out, hk5H.out]
              clear p0 p1 p2
              go_wp2_with fail
              refine C5.out.mono ?_
              rintro e w6 ⟨g0, n0, g1, n1, v0, v1, la, rfl, hP⟩
              have HB6 : Hid (Below w3.heap.size w3 w6) := by
                obtain ⟨_, -, -, -, -, -, -, -, h8, -⟩ := hP
                exact HB5.out.trans (h8.mono HB5.out.size)
              clear hP C5
              go_wp2_with fail
              exact ⟨⟨k + 1, by simp, rfl, by omega, HB6⟩, by simp only [intOf]; omega⟩
            · have hk3i : ¬ (k : Int) < 3 := by omega
              go_wp2_with fail
              exact ⟨⟨t + 1, by simp, rfl, by omega, HB⟩, by simp only [intOf]; omega⟩
        case neg =>
          have hts2 : ¬ (t : Int) ≤ (cnt : Int) := by omega
          go_wp2_with fail
          refine CC.mono ?_
          rintro e w4 ⟨rfl, hw4⟩
          subst hw4
          clear CC
          have bd := below_drew w4
          have b3d := HB.out.trans (bd.mono HB.out.size)
          have CC := mkHid (HCn.out _ b3d)
          obtain ⟨m2, hm2, hm2b⟩ := and_mask a 16777215 (by decide)
          rw [show ((16777215 : Nat) : Int) = 16777215 from rfl] at hm2
          have hwc : IntKind.i64.wrap ((cnt : Int) + 1) = (cnt : Int) + 1 := by have := hsl.out; rw [IntKind.wrap_i64]; omega
          obtain ⟨t2, ht2⟩ : ∃ t2, m2 % (cnt + 1) = t2 := ⟨_, rfl⟩
          have ht2b : t2 < sp.length := by
            have := Nat.mod_lt m2 (show 0 < cnt + 1 by omega)
            have := hsl.out
            omega
          have hmod : (m2 : Int).tmod ((cnt : Int) + 1) = (t2 : Int) := by
            rw [← ht2, Int.tmod_eq_emod_of_nonneg (by omega)]
            rfl
          have hne : ¬ (cnt : Int) + 1 = 0 := by omega
          obtain ⟨z2, hz⟩ : ∃ z2, sp[t2]? = some z2 := ⟨_, List.getElem?_eq_getElem ht2b⟩
          have g2d : w4.drew.cell? ⟨kl, 2, none⟩ = some (.int .i64 a) := cell_below b3d HQ.out.2.2.2.2.1
          have c0 : w4.drew.cell? ⟨kk, 0, none⟩ = some (.int .i64 (m0 : Int)) := cell_below b3d HQ.out.2.2.1
          have c1 : w4.drew.cell? ⟨kk, 1, none⟩ = some (.int .i64 (m1 : Int)) := cell_below b3d HQ.out.2.2.2.1
          have C6 := mkHid (left_any (cap1 := cap1) (cap2 := cap2) w4.drew (HQ.out.1.below b3d) HQ.out.2.2.2.2.2.1 hz (kk0 := m0) (kk1 := m1) (by omega) (by omega))
          have HB3 := mkHid b3d
          clear hz ht2b ht2 bd b3d
          go_upto_region 23 with fail
          go_region_held3 (fun w' => w'.cell? ⟨kl, 2, none⟩ = some (.int .i64 a)) (first | assumption | exact g2d)
            (first
              | (go_at_call 9; with_reducible refine Calls.mono CC.out ?_; rintro e w5 ⟨rfl, hw5⟩; subst hw5))
          clear CC hmod hne hwc hm2 g2d
          go_wp2_with fail
          refine C6.out.mono ?_
          rintro e w6 ⟨g0, n0, g1, n1, v0, v1, la, rfl, hP⟩
          have hb6 : Below w4.drew.heap.size w4.drew w6 := by
            obtain ⟨_, -, -, -, -, -, -, -, h8, -⟩ := hP
            exact h8
          have b36 := HB3.out.trans (hb6.mono HB3.out.size)
          have b16 := HQ.out.2.1.trans (b36.mono HQ.out.2.1.size)
          have br6 := HP.out.2.2.2.1.trans (b16.mono HP.out.2.2.2.1.size)
          have hK6 := HP.out.1.below br6
          have r06 := (br6.block _ (Array.getElem?_eq_some_iff.1 HP.out.2.1).1).trans HP.out.2.1
          have r16 := (br6.block _ (Array.getElem?_eq_some_iff.1 HP.out.2.2.1).1).trans HP.out.2.2.1
          have hv0 : v0.oneCell' = true ∧ v1.oneCell' = true := by
            obtain ⟨_, -, -, -, -, -, h6, h7, -⟩ := hP
            obtain ⟨_, _, e⟩ := h6.sl
            obtain ⟨_, _, e'⟩ := h7.sl
            rw [e, e']
            exact ⟨rfl, rfl⟩
          obtain ⟨X1, hX1⟩ : ∃ X, w6.setRow kd #[.slice (some ⟨g0, 0, none⟩) n0 n0, .slice (some ⟨g1, 0, none⟩) n1 n1] = X := ⟨_, rfl⟩
          have st3 := st_D w6 kd _ #[.slice (some ⟨g0, 0, none⟩) n0 n0, .slice (some ⟨g1, 0, none⟩) n1 n1] rfl rfl (by simp [Value.oneCell']) r06
          rw [hX1] at st3
          have r1X := (setRow_other w6 kd (kd + 1) #[.slice (some ⟨g0, 0, none⟩) n0 n0, .slice (some ⟨g1, 0, none⟩) n1 n1] (by omega)).trans r16
          rw [hX1] at r1X
          obtain ⟨X2, hX2⟩ : ∃ X, X1.setRow (kd + 1) #[v0, v1, .int .i64 (la : Int)] = X := ⟨_, rfl⟩
          have st4 := st_Bk X1 (kd + 1) _ #[v0, v1, .int .i64 (la : Int)] rfl rfl (all3 hv0.1 hv0.2 rfl) r1X
          rw [hX2] at st4
          have HR : Hid (LwR kd A4 (i + 1) X2) := by
            rw [← hX2, ← hX1]
            have e9 := HQ.out.2.2.2.2.2.2
            have q9 := HP.out.2.2.2.2.1
            have z9 := HP.out.1.size
            have z8 := HP.out.2.2.2.1.size
            have z7 := HQ.out.2.1.size
            have z6 := HB3.out.size
            exact LwR.next hK6 r06 r16 hP (by omega) (by omega)
          clear hP hb6 b36 b16 br6 hK6 r06 r16 hv0 hX1 hX2 r1X C6
          go_wp2_with fail
          exact ⟨⟨i + 1, by simp, by omega, HR⟩, by simp only [intOf]; omega⟩
  · have hni : ¬ (n : Int) = 0 := by omega
    have hnb : ((n : Int) == 0) = false := by rw [beq_eq_false_iff_ne]; exact hni
    go_enter Tryd.func3, Tryd.ntmps3
    go_upto_region 5 with fail
    try rw [hAH.out]
    clear st1 st2
    have HLV := mkHid (show ∀ w, Kp kd A w → Lvs w (.slice oa n cap) n ∧ Tc w ∧ kd + 2 ≤ A.heap.size ∧ Below W.heap.size W w from fun w hk => by
      have z := HA.out.2.2.2
      have b := hk.bel (by rw [← hkd.out]; omega)
      rw [← hkd.out] at b
      have bw : Below W.heap.size W w := HA.out.1.trans b
      exact ⟨HU.out.below bw, HT.out.below bw HT.out.sz, by rw [← hkd.out]; omega, bw⟩)
    have HS : Hid (LwR kd A 0 A) := by
      rw [← hkd.out]
      exact ⟨_, _, _, _, _, _, _, _, ⟨[], [], 0⟩, (([], 0), ([], 0)), HA.out.2.1, HA.out.2.2.1, bl_none _, bl_none _, ⟨Nat.zero_le _, Nat.zero_le _⟩, .inl ⟨⟨rfl, 0, by omega, rfl⟩, rfl⟩, Ll.nil _ _, Lb.nil _ _, Kp.refl _ _⟩
    rw [hkd.out]
    clear hni hnb
    go_wp2_with fail
    go_loopw [5] (fun iv wr => ∃ i : Nat, iv = .int .i64 (i : Int) ∧ i ≤ min n 6 ∧ Hid (LwR kd A i wr)) (fun iv _ => min n 6 - (intOf iv).toNat)
    case atStart => exact ⟨0, rfl, Nat.zero_le _, HS⟩
    case round =>
      obtain ⟨i, rfl, hi, HI⟩ := hrel
      by_cases hlt : i < min n 6
      case neg =>
        have hBW := mkHid (HLV.out wr (by obtain ⟨_, _, _, _, _, _, _, _, _, _, -, -, -, -, -, -, -, -, hK⟩ := HI.out; exact hK)).2.2.2
        by_cases hi1 : (i : Int) < (n : Int)
        · have hi6 : ¬ (i : Int) < 6 := by omega
          go_wp2_with fail
          go_ret
          exact ⟨rfl, hBW.out⟩
        · go_wp2_with fail
          go_ret
          exact ⟨rfl, hBW.out⟩
      have hi1 : (i : Int) < (n : Int) := by omega
      have hi6 : (i : Int) < 6 := by omega
      have hi0 : (0 : Int) ≤ (i : Int) := by omega
      obtain ⟨oa1, ob1, na, ca, nb, cb, u0, u1, b, y, q0, q1, q2, q3, q4, q5, q6, q7, hK⟩ := HI.out
      obtain ⟨hL, hTw, hkA, hBW⟩ := HLV.out wr hK
      obtain ⟨oa', cap', e0, h2⟩ := hL
      injection e0 with e0 el ec
      clear el
      subst e0 ec
      obtain ⟨g, o, l, a, k0, k1, us, ss, rfl, e1, e2, e3, e4, e5, hS⟩ := h2 i (by omega)
      obtain ⟨ous, cus, rfl⟩ := hS.sl
      obtain ⟨o4, c4, e6⟩ := q6.sl
      obtain ⟨o5, c5, e7⟩ := q7.sl
      subst e6 e7
      obtain ⟨lst, hlst⟩ : ∃ m, b.last = m := ⟨_, rfl⟩
      obtain ⟨nb4, hnb4⟩ : ∃ m, b.base.length = m := ⟨_, rfl⟩
      obtain ⟨nb5, hnb5⟩ : ∃ m, b.batches.length = m := ⟨_, rfl⟩
      obtain ⟨nss, hnss⟩ : ∃ m, ss.length = m := ⟨_, rfl⟩
      obtain ⟨w1, hw1⟩ : ∃ w1, wr.alloc (.cells (lifG l (.slice ous ss.length cus) a k0 k1) 36) = w1 := ⟨_, rfl⟩
      have b1 : Below wr.heap.size wr w1 := by rw [← hw1]; exact (Below.refl _ wr).alloc (Nat.le_refl _) _
      have rl : w1.heap[wr.heap.size]? = some (.cells (lifG l (.slice ous ss.length cus) a k0 k1) 36 (0, 0)) := by rw [← hw1]; exact heap_alloc_new _ _
      obtain ⟨kl, hkl⟩ : ∃ kl, wr.heap.size = kl := ⟨_, rfl⟩
      rw [hkl] at rl
      have C1 := lived_anyH (l := l) (a := a) (k0 := k0) (k1 := k1) (B := 0) w1 (hS.below b1) (hTw.below b1 hTw.sz) (q2.below b1) (q3.below b1) q4 q5 (q6.keep (stay_below b1)) (q7.keep (stay_below b1)) (Nat.zero_le _) (by omega) (by omega)
      have q1b := q1
      unfold bkA at C1 q1b
      unfold lifG at C1 hw1 rl
      rw [hlst, hnb4, hnb5, hnss] at C1
      rw [hlst, hnb4, hnb5] at q1b
      rw [hnss] at hw1 rl e2
      have f0 : w1.cell? ⟨kd, 0, none⟩ = some (.slice oa1 na ca) := cell_below b1 ((cell_of_row _ _ _ _ _ _ q0).trans rfl)
      have f1 : w1.cell? ⟨kd, 1, none⟩ = some (.slice ob1 nb cb) := cell_below b1 ((cell_of_row _ _ _ _ _ _ q0).trans rfl)
      have f2 : w1.cell? ⟨kd + 1, 0, none⟩ = some (.slice o4 nb4 c4) := cell_below b1 ((cell_of_row _ _ _ _ _ _ q1b).trans rfl)
      have f3 : w1.cell? ⟨kd + 1, 1, none⟩ = some (.slice o5 nb5 c5) := cell_below b1 ((cell_of_row _ _ _ _ _ _ q1b).trans rfl)
      have f4 : w1.cell? ⟨kd + 1, 2, none⟩ = some (.int .i64 (lst : Int)) := cell_below b1 ((cell_of_row _ _ _ _ _ _ q1b).trans rfl)
      have g0 : w1.cell? ⟨kl, 0, none⟩ = some (.int .i64 l) := (cell_of_row _ _ _ _ _ _ rl).trans rfl
      have g1 : w1.cell? ⟨kl, 1, none⟩ = some (.slice ous nss cus) := (cell_of_row _ _ _ _ _ _ rl).trans rfl
      have g2 : w1.cell? ⟨kl, 2, none⟩ = some (.int .i64 a) := (cell_of_row _ _ _ _ _ _ rl).trans rfl
      have g3 : w1.cell? ⟨kl, 3, none⟩ = some (.int .i64 k0) := (cell_of_row _ _ _ _ _ _ rl).trans rfl
      have g4 : w1.cell? ⟨kl, 4, none⟩ = some (.int .i64 k1) := (cell_of_row _ _ _ _ _ _ rl).trans rfl
      have HP := mkHid (And.intro hK (And.intro q0 (And.intro q1 (And.intro b1 (And.intro hkA hTw)))))
      replace C1 := mkHid C1
      replace hw1 := mkHid hw1
      replace hkl := mkHid hkl
      clear hK q0 q1 q1b q2 q3 q4 q5 q6 q7 hlst hnb4 hnb5 hnss b1 rl hS h2 hBW hkA hTw HI
      go_upto_region 9 with fail
      rw [hw1.out, hkl.out]
      go_wp2_with fail
      refine C1.out.mono ?_
      rintro e w2 ⟨lo, j, v, cv, bv, rfl, hX⟩
      clear C1 e1 e2 e3 e4 e5 f0 f1 f2 f3 f4 g0 g1
      obtain ⟨sp, cs, bks, gc, gb, n2, cap1, cap2, hF, rfl, rfl, hcs, b12⟩ := Cr.Lft.of hX
      clear hX
      letI := hJ j
      obtain ⟨m0, hm0, hm0b⟩ := and_mask k0 65535 (by decide)
      obtain ⟨m1, hm1, hm1b⟩ := and_mask k1 65535 (by decide)
      rw [show ((65535 : Nat) : Int) = 65535 from rfl] at hm0 hm1
      have g2 := cell_below b12 g2
      have g3 := cell_below b12 g3
      have g4 := cell_below b12 g4
      obtain ⟨w3, hw3⟩ : ∃ w3, w2.alloc (.cells #[.int .i64 (m0 : Int), .int .i64 (m1 : Int)] 34) = w3 := ⟨_, rfl⟩
      have b23 : Below w2.heap.size w2 w3 := by rw [← hw3]; exact (Below.refl _ w2).alloc (Nat.le_refl _) _
      have rk : w3.heap[w2.heap.size]? = some (.cells #[.int .i64 (m0 : Int), .int .i64 (m1 : Int)] 34 (0, 0)) := by rw [← hw3]; exact heap_alloc_new _ _
      obtain ⟨kk, hkk⟩ : ∃ kk, w2.heap.size = kk := ⟨_, rfl⟩
      rw [hkk] at rk
      have g2 := cell_below b23 g2
      have c0 : w3.cell? ⟨kk, 0, none⟩ = some (.int .i64 (m0 : Int)) := (cell_of_row _ _ _ _ _ _ rk).trans rfl
      have c1 : w3.cell? ⟨kk, 1, none⟩ = some (.int .i64 (m1 : Int)) := (cell_of_row _ _ _ _ _ _ rk).trans rfl
      have hF3 := hF.below b23
      have b13 : Below w1.heap.size w1 w3 := b12.trans (b23.mono b12.size)
      obtain ⟨cnt, hcnt⟩ : ∃ m, sp.length - 1 = m := ⟨_, rfl⟩
      have hspos := hF.hst.spos
      have hspf := hF.few
      have hcc := hF.cfew
      obtain ⟨N3, hN3⟩ : ∃ m, 1 + 30 * i + 30 = m := ⟨_, rfl⟩
      rw [hN3] at hF3
      have HQ := mkHid (And.intro hF3 (And.intro b13 (And.intro c0 (And.intro c1 (And.intro g2 (And.intro hcs hN3))))))
      have HCn := mkHid (show ∀ w, Below w3.heap.size w3 w → Calls Tryd.prog 9 #[.pointer (some ⟨v, 0, none⟩)] w fun e w' => e = .returned (.int .i64 (cnt : Int)) ∧ w' = w from fun w hb => by
        obtain ⟨lv, f, ms, hdv⟩ := (hF3.below hb).dv
        have := hdv.len
        rw [← hcnt, show sp.length - 1 = ms.length by omega]
        exact count_any hdv)
      have hkkH := mkHid hkk
      have hw3H := mkHid hw3
      have hsl := mkHid (And.intro hspos (And.intro hspf (And.intro hcnt hcc)))
      clear hF hF3 b12 b23 rk g2 c0 c1 hcs hN3 hcc b13 hkk hw3
      go_upto_region 14 with fail
      rw [hw3H.out, hkkH.out]
      clear g3 g4 hm0 hm1
      go_wp2_with fail
      go_loopw [12, 10] (fun tv ov wq => ∃ t : Nat, tv = .int .i64 (t : Int) ∧ ov = .bool true ∧ t ≤ cnt + 1 ∧ Hid (Below w3.heap.size w3 wq)) (fun tv _ _ => cnt + 1 - (intOf tv).toNat)
      case atStart => exact ⟨0, rfl, rfl, Nat.zero_le _, Below.refl _ _⟩
      case round =>
        obtain ⟨t, rfl, rfl, ht, HB⟩ := hrel
        have CC := HCn.out _ HB.out
        by_cases hts : t ≤ cnt
        case pos =>
          have hts2 : (t : Int) ≤ (cnt : Int) := by omega
          go_wp2_with fail
          refine CC.mono ?_
          rintro e w4 ⟨rfl, hw4⟩
          subst hw4
          clear CC
          go_wp2_with fail
          go_loopw [13, 10] (fun kv ov wq => ∃ k : Nat, kv = .int .i64 (k : Int) ∧ ov = .bool true ∧ k ≤ 3 ∧ Hid (Below w3.heap.size w3 wq)) (fun kv _ _ => 3 - (intOf kv).toNat)
          case atStart => exact ⟨0, rfl, rfl, Nat.zero_le _, HB⟩
          case round =>
            clear HB
            obtain ⟨k, rfl, rfl, hk, HB⟩ := hrel
            by_cases hk3 : k < 3
            · have hk3i : (k : Int) < 3 := by omega
              obtain ⟨L0, hL0⟩ : ∃ m, m0 * k = m := ⟨_, rfl⟩
              obtain ⟨L1, hL1⟩ : ∃ m, m1 * (2 - k) = m := ⟨_, rfl⟩
              have hb0 : L0 ≤ 65535 * 2 := by rw [← hL0]; exact Nat.mul_le_mul hm0b (by omega)
              have hb1 : L1 ≤ 65535 * 2 := by rw [← hL1]; exact Nat.mul_le_mul hm1b (by omega)
              have p0 : IntKind.i64.wrap ((m0 : Int) * (k : Int)) = (L0 : Int) := by rw [← Int.natCast_mul, hL0, IntKind.wrap_i64]; omega
              have p1 : IntKind.i64.wrap (2 - (k : Int)) = ((2 - k : Nat) : Int) := by rw [IntKind.wrap_i64]; omega
              have p2 : IntKind.i64.wrap ((m1 : Int) * ((2 - k : Nat) : Int)) = (L1 : Int) := by rw [← Int.natCast_mul, hL1, IntKind.wrap_i64]; omega
              have hz : sp[t]? = some sp[t] := List.getElem?_eq_getElem (by have := hsl.out; omega)
              have c0 := cell_below HB.out HQ.out.2.2.1
              have c1 := cell_below HB.out HQ.out.2.2.2.1
              obtain ⟨w5, hw5⟩ : ∃ w5, wr.alloc (.cells #[.int .i64 (L0 : Int), .int .i64 (L1 : Int)] 34) = w5 := ⟨_, rfl⟩
              have b5 : Below wr.heap.size wr w5 := by rw [← hw5]; exact (Below.refl _ wr).alloc (Nat.le_refl _) _
              have r5 : w5.heap[wr.heap.size]? = some (.cells #[.int .i64 (L0 : Int), .int .i64 (L1 : Int)] 34 (0, 0)) := by rw [← hw5]; exact heap_alloc_new _ _
              obtain ⟨k5, hk5⟩ : ∃ k5, wr.heap.size = k5 := ⟨_, rfl⟩
              rw [hk5] at r5
              have c50 : w5.cell? ⟨k5, 0, none⟩ = some (.int .i64 (L0 : Int)) := (cell_of_row _ _ _ _ _ _ r5).trans rfl
              have c51 : w5.cell? ⟨k5, 1, none⟩ = some (.int .i64 (L1 : Int)) := (cell_of_row _ _ _ _ _ _ r5).trans rfl
              have b35 : Below w3.heap.size w3 w5 := HB.out.trans (b5.mono HB.out.size)
              have C5 := mkHid (left_any (cap1 := cap1) (cap2 := cap2) w5 (HQ.out.1.below b35) HQ.out.2.2.2.2.2.1 hz (kk0 := L0) (kk1 := L1) (by omega) (by omega))
              have HB5 := mkHid b35
              have hw5H := mkHid hw5
              have hk5H := mkHid hk5
              clear hz hL0 hL1 hb0 hb1 hw5 hk5 b5 r5 b35
              go_upto_region 20 with fail
              rw [hw5H.out, hk5H.out]
              clear p0 p1 p2
              go_wp2_with fail
              refine C5.out.mono ?_
              rintro e w6 ⟨g0, n0, g1, n1, v0, v1, la, rfl, hP⟩
              have HB6 : Hid (Below w3.heap.size w3 w6) := by
                obtain ⟨_, -, -, -, -, -, -, -, h8, -⟩ := hP
                exact HB5.out.trans (h8.mono HB5.out.size)
              clear hP C5
              go_wp2_with fail
              exact ⟨⟨k + 1, by simp, rfl, by omega, HB6⟩, by simp only [intOf]; omega⟩
            · have hk3i : ¬ (k : Int) < 3 := by omega
              go_wp2_with fail
              exact ⟨⟨t + 1, by simp, rfl, by omega, HB⟩, by simp only [intOf]; omega⟩
        case neg =>
          have hts2 : ¬ (t : Int) ≤ (cnt : Int) := by omega
          go_wp2_with fail
          refine CC.mono ?_
          rintro e w4 ⟨rfl, hw4⟩
          subst hw4
          clear CC
          have bd := below_drew w4
          have b3d := HB.out.trans (bd.mono HB.out.size)
          have CC := mkHid (HCn.out _ b3d)
          obtain ⟨m2, hm2, hm2b⟩ := and_mask a 16777215 (by decide)
          rw [show ((16777215 : Nat) : Int) = 16777215 from rfl] at hm2
          have hwc : IntKind.i64.wrap ((cnt : Int) + 1) = (cnt : Int) + 1 := by have := hsl.out; rw [IntKind.wrap_i64]; omega
          obtain ⟨t2, ht2⟩ : ∃ t2, m2 % (cnt + 1) = t2 := ⟨_, rfl⟩
          have ht2b : t2 < sp.length := by
            have := Nat.mod_lt m2 (show 0 < cnt + 1 by omega)
            have := hsl.out
            omega
          have hmod : (m2 : Int).tmod ((cnt : Int) + 1) = (t2 : Int) := by
            rw [← ht2, Int.tmod_eq_emod_of_nonneg (by omega)]
            rfl
          have hne : ¬ (cnt : Int) + 1 = 0 := by omega
          obtain ⟨z2, hz⟩ : ∃ z2, sp[t2]? = some z2 := ⟨_, List.getElem?_eq_getElem ht2b⟩
          have g2d : w4.drew.cell? ⟨kl, 2, none⟩ = some (.int .i64 a) := cell_below b3d HQ.out.2.2.2.2.1
          have c0 : w4.drew.cell? ⟨kk, 0, none⟩ = some (.int .i64 (m0 : Int)) := cell_below b3d HQ.out.2.2.1
          have c1 : w4.drew.cell? ⟨kk, 1, none⟩ = some (.int .i64 (m1 : Int)) := cell_below b3d HQ.out.2.2.2.1
          have C6 := mkHid (left_any (cap1 := cap1) (cap2 := cap2) w4.drew (HQ.out.1.below b3d) HQ.out.2.2.2.2.2.1 hz (kk0 := m0) (kk1 := m1) (by omega) (by omega))
          have HB3 := mkHid b3d
          clear hz ht2b ht2 bd b3d
          go_upto_region 23 with fail
          go_region_held3 (fun w' => w'.cell? ⟨kl, 2, none⟩ = some (.int .i64 a)) (first | assumption | exact g2d)
            (first
              | (go_at_call 9; with_reducible refine Calls.mono CC.out ?_; rintro e w5 ⟨rfl, hw5⟩; subst hw5))
          clear CC hmod hne hwc hm2 g2d
          go_wp2_with fail
          refine C6.out.mono ?_
          rintro e w6 ⟨g0, n0, g1, n1, v0, v1, la, rfl, hP⟩
          have hb6 : Below w4.drew.heap.size w4.drew w6 := by
            obtain ⟨_, -, -, -, -, -, -, -, h8, -⟩ := hP
            exact h8
          have b36 := HB3.out.trans (hb6.mono HB3.out.size)
          have b16 := HQ.out.2.1.trans (b36.mono HQ.out.2.1.size)
          have br6 := HP.out.2.2.2.1.trans (b16.mono HP.out.2.2.2.1.size)
          have hK6 := HP.out.1.below br6
          have r06 := (br6.block _ (Array.getElem?_eq_some_iff.1 HP.out.2.1).1).trans HP.out.2.1
          have r16 := (br6.block _ (Array.getElem?_eq_some_iff.1 HP.out.2.2.1).1).trans HP.out.2.2.1
          have hv0 : v0.oneCell' = true ∧ v1.oneCell' = true := by
            obtain ⟨_, -, -, -, -, -, h6, h7, -⟩ := hP
            obtain ⟨_, _, e⟩ := h6.sl
            obtain ⟨_, _, e'⟩ := h7.sl
            rw [e, e']
            exact ⟨rfl, rfl⟩
          obtain ⟨X1, hX1⟩ : ∃ X, w6.setRow kd #[.slice (some ⟨g0, 0, none⟩) n0 n0, .slice (some ⟨g1, 0, none⟩) n1 n1] = X := ⟨_, rfl⟩
          have st3 := st_D w6 kd _ #[.slice (some ⟨g0, 0, none⟩) n0 n0, .slice (some ⟨g1, 0, none⟩) n1 n1] rfl rfl (by simp [Value.oneCell']) r06
          rw [hX1] at st3
          have r1X := (setRow_other w6 kd (kd + 1) #[.slice (some ⟨g0, 0, none⟩) n0 n0, .slice (some ⟨g1, 0, none⟩) n1 n1] (by omega)).trans r16
          rw [hX1] at r1X
          obtain ⟨X2, hX2⟩ : ∃ X, X1.setRow (kd + 1) #[v0, v1, .int .i64 (la : Int)] = X := ⟨_, rfl⟩
          have st4 := st_Bk X1 (kd + 1) _ #[v0, v1, .int .i64 (la : Int)] rfl rfl (all3 hv0.1 hv0.2 rfl) r1X
          rw [hX2] at st4
          have HR : Hid (LwR kd A (i + 1) X2) := by
            rw [← hX2, ← hX1]
            have e9 := HQ.out.2.2.2.2.2.2
            have q9 := HP.out.2.2.2.2.1
            have z9 := HP.out.1.size
            have z8 := HP.out.2.2.2.1.size
            have z7 := HQ.out.2.1.size
            have z6 := HB3.out.size
            exact LwR.next hK6 r06 r16 hP (by omega) (by omega)
          clear hP hb6 b36 b16 br6 hK6 r06 r16 hv0 hX1 hX2 r1X C6
          go_wp2_with fail
          exact ⟨⟨i + 1, by simp, by omega, HR⟩, by simp only [intOf]; omega⟩
end Dev
end Go.Proofs.YtfimaflglnemdaaDoor
