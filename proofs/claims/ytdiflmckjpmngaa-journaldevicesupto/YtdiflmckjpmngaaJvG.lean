/- The journal's device: Disk, At. -/
import Derived.Test.YtdiflmckjpmngaaJvF
namespace Go.Proofs.Ytdiflmckjpmngaa
open Go.RowKit
theorem DkP.sub {W X : World} {x : Sp} {c : Array Value} {w' : World} (h : DkP X x c w') (hb : Below W.heap.size W X) : DkP W x c w' := by
  obtain ⟨g0, g1, h1, h2, h3, h4, h5, h6, h7⟩ := h
  have := hb.size
  exact ⟨g0, g1, h1, h2, h3, by omega, by omega, h6, hb.trans (h7.mono hb.size)⟩
theorem DkP.setR {W : World} {x : Sp} {c : Array Value} {w' : World} (h : DkP W x c w') (B : Nat) (C : Array Value) (hB : W.heap.size ≤ B) (hlt : ∀ g0 g1, c = dkA g0 x.1.1.length g1 x.2.1.length → g0 ≠ B ∧ g1 ≠ B) : DkP W x c (w'.setRow B C) := by
  obtain ⟨g0, g1, h1, h2, h3, h4, h5, h6, h7⟩ := h
  obtain ⟨q0, q1⟩ := hlt g0 g1 h1
  exact ⟨g0, g1, h1, (setRow_other _ _ _ _ q0).trans h2, (setRow_other _ _ _ _ q1).trans h3, h4, h5, h6, below_setRow h7 hB _⟩
theorem dkA_inj {a b c d e f g h : Nat} (q : dkA a b c d = dkA e f g h) : a = e ∧ c = g := by
  have := congrArg Array.toList q
  simp only [dkA, List.cons.injEq, Value.slice.injEq, Option.some.injEq, Addr.mk.injEq, and_true] at this
  exact ⟨this.1.1, this.2.1⟩
theorem DkP.bel {W : World} {x : Sp} {c : Array Value} {w' : World} (h : DkP W x c w') : Below W.heap.size W w' := by
  obtain ⟨_, _, _, _, _, _, _, _, h⟩ := h
  exact h
theorem DkP.one {W : World} {x : Sp} {c : Array Value} {w' : World} (h : DkP W x c w') : c.size = 2 ∧ c.all (·.oneCell') = true := by
  obtain ⟨g0, g1, rfl, _⟩ := h
  exact ⟨rfl, by simp [dkA, Value.oneCell']⟩
/-- A disk that was handed out at X lies in blocks from there on. -/
theorem DkP.hi {W : World} {x : Sp} {c : Array Value} {w' : World} (h : DkP W x c w') (B : Nat) (hB : B < W.heap.size) : ∀ g0 g1, c = dkA g0 x.1.1.length g1 x.2.1.length → g0 ≠ B ∧ g1 ≠ B := fun g0 g1 e => by
  obtain ⟨a, b, h1, _, _, h4, h5, _⟩ := h
  obtain ⟨rfl, rfl⟩ := dkA_inj (h1.symm.trans e)
  exact ⟨by omega, by omega⟩
section
attribute [local go_sem ↓] toLdD toStD
set_option maxRecDepth 100000 in
theorem Disk_any [Inhabited HoleT] {lo v : Nat} {W : World} {lv : Value} {f : Array Value} {ms : List (Array Value)} {sp : List Sp} (h : Dv lo W v lv f ms sp) (x : Sp) (hx : sp[ms.length]? = some x) (hbig : ms.length < 9223372036854775807) : Calls Try.prog 10 #[.pointer (some ⟨v, 0, none⟩)] W fun e w' => ∃ c, e = .returned (.agg c) ∧ DkP W x c w' := by
  obtain ⟨W1, hW1⟩ : ∃ W1, W.alloc (.cells zD 28) = W1 := ⟨_, rfl⟩
  have bW : Below W.heap.size W W1 := by rw [← hW1]; exact (Below.refl _ W).alloc (Nat.le_refl _) _
  have r1 : W1.heap[W.heap.size]? = some (.cells zD 28 (0, 0)) := by rw [← hW1]; exact heap_alloc_new _ _
  have h1 := h.below bW
  have C1 : Hid _ := count_any h1
  have C2 : Hid _ := at_any h1 ms.length x hx hbig
  have HW : Hid (W.alloc (.cells zD 28) = W1) := hW1
  have HR : Hid (Below W.heap.size W W1 ∧ W1.heap[W.heap.size]? = some (.cells zD 28 (0, 0))) := ⟨bW, r1⟩
  clear hW1 bW r1 h1 h hx hbig
  unfold zD at HW
  go_enter Try.func10, Try.ntmps10
  go_wp2_with fail
  rw [HW.out]
  refine Calls.mono C1.out ?_
  rintro e w' ⟨rfl, hw⟩
  have hw2 := hw.symm
  subst hw2
  go_wp2_with fail
  refine Calls.mono C2.out ?_
  rintro e X ⟨m, rfl, hm, hX⟩
  have C3 : Hid _ := disk_any _ m x X hm (fun j hj => Nat.lt_of_lt_of_le hj.2.1 hX.size)
  have HX : Hid (Below W1.heap.size W1 X) := hX
  clear hm hX C1 C2
  go_wp2_with fail
  refine Calls.mono C3.out ?_
  rintro e Y ⟨c, rfl, hD⟩
  have hz1 : W.heap.size < W1.heap.size := (Array.getElem?_eq_some_iff.1 HR.out.2).1
  have hzX := HX.out.size
  have bX : Below W.heap.size W X := HR.out.1.trans (HX.out.mono HR.out.1.size)
  have hbY := hD.bel
  have rY : Y.heap[W.heap.size]? = some (.cells zD 28 (0, 0)) := (hbY.block _ (by omega)).trans ((HX.out.block _ hz1).trans HR.out.2)
  have st := st_D Y W.heap.size zD c rfl hD.one.1 hD.one.2 rY
  have HF : Hid ((Y.setRow W.heap.size c).heap[W.heap.size]? = some (.cells c 28 (0, 0)) ∧ DkP W x c (Y.setRow W.heap.size c) ∧ c.size = 2) := ⟨setRow_heap _ _ _ _ _ _ rY, (hD.sub bX).setR _ _ (Nat.le_refl _) (hD.hi _ (by omega)), hD.one.1⟩
  clear hD hz1 hzX bX hbY rY C3
  go_wp2_with fail
  refine bodyPost_ret (results_D rfl _ _ W.heap.size _ HF.out.2.2 rfl HF.out.1) rfl ?_
  exact ⟨_, rfl, HF.out.2.1⟩
end
def keepN (x : List Nat × Nat) (k : Nat) : Nat := x.2 + min k (x.1.length - x.2)
def cutP (x : List Nat × Nat) (k : Nat) : List Nat × Nat := (x.1.take (keepN x k), min x.2 (keepN x k))
theorem st_C0 (w : World) (g : Nat) (a b c c0 c1 c2 c3 c4 c5 : Value) (h1 : (#[a, b, c] : Array Value).all (·.oneCell') = true) (hg : w.heap[g]? = some (.cells #[c0, c1, c2, c3, c4, c5] 52 (0, 0))) : (stC (.pointer (some ⟨g, 0, none⟩)) (.agg #[a, b, c])).run Try.prog w = .ok () (w.setRow g #[a, b, c, c3, c4, c5]) := by
  have ht : w.there g 0 3 := fun j hj => by
    have e : w.cell? ⟨g, 0 + j, none⟩ = (#[c0, c1, c2, c3, c4, c5] : Array Value)[0 + j]? := by rw [cell_of_row _ _ _ _ _ _ hg]
    refine ⟨?_, frozen_of_row _ _ _ _ _ hg⟩
    rw [e, Array.getElem?_eq_getElem (by simp; omega)]
    rfl
  have := run_storeAt_mid (P := Try.prog) w g 0 50 #[a, b, c] ht (by rw [sizeC]; rfl) h1
  unfold stC
  rw [this]
  congr 1
  simp only [World.setCells]
  rw [setCell_eq_setRow w g 0 _ _ _ _ hg, setCell_eq_setRow _ g _ _ _ _ _ (setRow_heap _ _ _ _ _ _ hg), setRow_setRow, setCell_eq_setRow _ g _ _ _ _ _ (setRow_heap _ _ _ _ _ _ hg), setRow_setRow]
  rfl
theorem st_C1 (w : World) (g : Nat) (a b c c0 c1 c2 c3 c4 c5 : Value) (h1 : (#[a, b, c] : Array Value).all (·.oneCell') = true) (hg : w.heap[g]? = some (.cells #[c0, c1, c2, c3, c4, c5] 52 (0, 0))) : (stC (.pointer (some ⟨g, 3, none⟩)) (.agg #[a, b, c])).run Try.prog w = .ok () (w.setRow g #[c0, c1, c2, a, b, c]) := by
  have ht : w.there g 3 3 := fun j hj => by
    have e : w.cell? ⟨g, 3 + j, none⟩ = (#[c0, c1, c2, c3, c4, c5] : Array Value)[3 + j]? := by rw [cell_of_row _ _ _ _ _ _ hg]
    refine ⟨?_, frozen_of_row _ _ _ _ _ hg⟩
    rw [e, Array.getElem?_eq_getElem (by simp; omega)]
    rfl
  have := run_storeAt_mid (P := Try.prog) w g 3 50 #[a, b, c] ht (by rw [sizeC]; rfl) h1
  unfold stC
  rw [this]
  congr 1
  simp only [World.setCells]
  rw [setCell_eq_setRow w g 3 _ _ _ _ hg, setCell_eq_setRow _ g _ _ _ _ _ (setRow_heap _ _ _ _ _ _ hg), setRow_setRow, setCell_eq_setRow _ g _ _ _ _ _ (setRow_heap _ _ _ _ _ _ hg), setRow_setRow]
  rfl
/-- What stands while a moment is cut. -/
structure AtR (Q : Nat → Prop) (W : World) (mb k0 k1 : Nat) (m0 : Array Value) (x0 : Sp) (y : Sp) (wr : World) : Prop where
  bel : Below W.heap.size W wr
  keep : wr.heap[W.heap.size]? = some (.cells #[.int .i64 (k0 : Int), .int .i64 (k1 : Int)] 33 (0, 0))
  res : wr.heap[W.heap.size + 1]? = some (.cells zD 28 (0, 0))
  row : ∃ m, wr.heap[mb]? = some (.cells m 52 (0, 0)) ∧ Mo Q wr m y
  orig : Mo Q wr m0 x0
theorem AtR.next0 {Q : Nat → Prop} {W : World} {mb k0 k1 : Nat} {m0 : Array Value} {x0 y : Sp} {wr : World} (hQ : ∀ j, Q j → j < mb) (hmb : W.heap.size + 2 ≤ mb) (h : AtR Q W mb k0 k1 m0 x0 y wr) (c : Obj) {X : World} (hb : Below (wr.alloc c).drew.heap.size (wr.alloc c).drew X) {c' : Array Value} {z : List Nat × Nat} (hc : Cn Q X c' z.1 z.2) :
    ∃ (p0 : Option Addr) (N s : Nat) (R : Array Value), c' = #[.pointer p0, .int .i64 (N : Int), .int .i64 (s : Int)] ∧ (stC (.pointer (some ⟨mb, 0, none⟩)) (.agg #[.pointer p0, .int .i64 (N : Int), .int .i64 (s : Int)])).run Try.prog X = .ok () (X.setRow mb R) ∧ AtR Q W mb k0 k1 m0 x0 (z, y.2) (X.setRow mb R) := by
  obtain ⟨m, hr, p0, p1, rfl, h0, h1⟩ := h.row
  obtain ⟨p, rfl, hc1, hc2⟩ := id hc
  have hz : mb < wr.heap.size := (Array.getElem?_eq_some_iff.1 hr).1
  have hza : (wr.alloc c).drew.heap.size = wr.heap.size + 1 := by show (wr.alloc c).heap.size = _; simp
  have kp : ∀ j, j < wr.heap.size → X.heap[j]? = wr.heap[j]? := fun j hj => (hb.block j (by omega)).trans (heap_alloc_old wr c (h := hj))
  have hrX := (kp mb hz).trans hr
  have hzs := h.bel.size
  have bX : Below W.heap.size W X := by
    have b1 := h.bel.alloc (by omega) c
    exact ⟨hb.os.trans b1.os, hb.tape.trans b1.tape, hb.output.trans b1.output, by have := hb.size; omega, fun j hj => (kp j (by omega)).trans (h.bel.block j hj)⟩
  refine ⟨p, z.1.length, z.2, momA p z.1.length z.2 p1 y.2.1.length y.2.2, rfl, st_C0 X mb _ _ _ _ _ _ _ _ _ (by simp [Value.oneCell']) hrX, ⟨below_setRow bX (by omega) _, (setRow_other _ _ _ _ (by omega)).trans ((kp _ (by omega)).trans h.keep), (setRow_other _ _ _ _ (by omega)).trans ((kp _ (by omega)).trans h.res), ⟨_, setRow_heap _ _ _ _ _ _ hrX, ⟨p, p1, rfl, ?_, ?_⟩⟩, h.orig.keep (fun j hj => (setRow_other _ _ _ _ (by have := hQ j hj; omega)).trans (kp j (by have := hQ j hj; omega))) (fun _ h => h)⟩⟩
  · exact hc.keep (fun j hj => setRow_other _ _ _ _ (by have := hQ j hj; omega)) (fun _ h => h)
  · exact h1.keep (fun j hj => (setRow_other _ _ _ _ (by have := hQ j hj; omega)).trans (kp j (by have := hQ j hj; omega))) (fun _ h => h)
theorem AtR.next1 {Q : Nat → Prop} {W : World} {mb k0 k1 : Nat} {m0 : Array Value} {x0 y : Sp} {wr : World} (hQ : ∀ j, Q j → j < mb) (hmb : W.heap.size + 2 ≤ mb) (h : AtR Q W mb k0 k1 m0 x0 y wr) (c : Obj) {X : World} (hb : Below (wr.alloc c).drew.heap.size (wr.alloc c).drew X) {c' : Array Value} {z : List Nat × Nat} (hc : Cn Q X c' z.1 z.2) :
    ∃ (p0 : Option Addr) (N s : Nat) (R : Array Value), c' = #[.pointer p0, .int .i64 (N : Int), .int .i64 (s : Int)] ∧ (stC (.pointer (some ⟨mb, 3, none⟩)) (.agg #[.pointer p0, .int .i64 (N : Int), .int .i64 (s : Int)])).run Try.prog X = .ok () (X.setRow mb R) ∧ AtR Q W mb k0 k1 m0 x0 (y.1, z) (X.setRow mb R) := by
  obtain ⟨m, hr, p0, p1, rfl, h0, h1⟩ := h.row
  obtain ⟨p, rfl, hc1, hc2⟩ := id hc
  have hz : mb < wr.heap.size := (Array.getElem?_eq_some_iff.1 hr).1
  have hza : (wr.alloc c).drew.heap.size = wr.heap.size + 1 := by show (wr.alloc c).heap.size = _; simp
  have kp : ∀ j, j < wr.heap.size → X.heap[j]? = wr.heap[j]? := fun j hj => (hb.block j (by omega)).trans (heap_alloc_old wr c (h := hj))
  have hrX := (kp mb hz).trans hr
  have hzs := h.bel.size
  have bX : Below W.heap.size W X := by
    have b1 := h.bel.alloc (by omega) c
    exact ⟨hb.os.trans b1.os, hb.tape.trans b1.tape, hb.output.trans b1.output, by have := hb.size; omega, fun j hj => (kp j (by omega)).trans (h.bel.block j hj)⟩
  refine ⟨p, z.1.length, z.2, momA p0 y.1.1.length y.1.2 p z.1.length z.2, rfl, st_C1 X mb _ _ _ _ _ _ _ _ _ (by simp [Value.oneCell']) hrX, ⟨below_setRow bX (by omega) _, (setRow_other _ _ _ _ (by omega)).trans ((kp _ (by omega)).trans h.keep), (setRow_other _ _ _ _ (by omega)).trans ((kp _ (by omega)).trans h.res), ⟨_, setRow_heap _ _ _ _ _ _ hrX, ⟨p0, p, rfl, ?_, ?_⟩⟩, h.orig.keep (fun j hj => (setRow_other _ _ _ _ (by have := hQ j hj; omega)).trans (kp j (by have := hQ j hj; omega))) (fun _ h => h)⟩⟩
  · exact h0.keep (fun j hj => (setRow_other _ _ _ _ (by have := hQ j hj; omega)).trans (kp j (by have := hQ j hj; omega))) (fun _ h => h)
  · exact hc.keep (fun j hj => setRow_other _ _ _ _ (by have := hQ j hj; omega)) (fun _ h => h)
end Go.Proofs.Ytdiflmckjpmngaa
