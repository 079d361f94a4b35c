/- Package card: takeSign. -/
import Derived.Test.YtgimkeklnpppjaaDoorCdM
namespace Go.Proofs.YtgimkeklnpppjaaDoor
open Go.RowKit Go.Shelf
/-- A depot's own card as it lies. -/
def sgA (st : ByteArray) (m : Bool) (pr : Int) : Array Value := #[.string st, .bool m, .int .i64 pr]
theorem sgA_cells {st : ByteArray} {m : Bool} {pr : Int} {g : Nat} {W : World} (h : W.heap[g]? = some (.cells (sgA st m pr) 23 (0, 0))) : W.cell? ⟨g, 0, none⟩ = some (.string st) ∧ W.cell? ⟨g, 1, none⟩ = some (.bool m) ∧ W.cell? ⟨g, 2, none⟩ = some (.int .i64 pr) :=
  ⟨by rw [cell_of_row _ _ _ _ _ _ h]; rfl, by rw [cell_of_row _ _ _ _ _ _ h]; rfl, by rw [cell_of_row _ _ _ _ _ _ h]; rfl⟩
theorem set_sgA {st : ByteArray} {m : Bool} {pr : Int} {g : Nat} {W : World} (h : W.heap[g]? = some (.cells (sgA st m pr) 23 (0, 0))) :
    (∀ x, (W.setCell ⟨g, 0, none⟩ (.string x)).heap[g]? = some (.cells (sgA x m pr) 23 (0, 0))) ∧ (∀ x, (W.setCell ⟨g, 1, none⟩ (.bool x)).heap[g]? = some (.cells (sgA st x pr) 23 (0, 0))) ∧ (∀ x, (W.setCell ⟨g, 2, none⟩ (.int .i64 x)).heap[g]? = some (.cells (sgA st m x) 23 (0, 0))) :=
  ⟨fun _ => heap_setCell_same _ _ _ _ _ _ h, fun _ => heap_setCell_same _ _ _ _ _ _ h, fun _ => heap_setCell_same _ _ _ _ _ _ h⟩
/-- A text as one of a depot's own card. -/
structure Sg where
  st : ByteArray
  m : Bool
  pr : Nat
def Sg.arr (s : Sg) : Array Value := sgA s.st s.m (s.pr : Int)
def dirS : ByteArray := ⟨#[47, 103, 114, 97, 102, 116, 47, 115, 116, 111, 114, 101]⟩
/-- What a line's value comes to, and whether it may be so. -/
def tkV (f : Nat) (v : ByteArray) (s : Sg) : Sg × Bool :=
  if f = 12 then ({ s with st := v }, v.toList == [47, 103, 114, 97, 102, 116, 47, 115, 116, 111, 114, 101])
  else if f = 13 then ({ s with m := v.toList == [49] }, v.toList == [48] || v.toList == [49])
  else ({ s with pr := (nmV v.data.toList).getD 0 }, (nmV v.data.toList).isSome)
theorem nmT_eq (l : List UInt8) : nmT l = .tuple #[.int .i64 (((nmV l).getD 0 : Nat) : Int), .bool (nmV l).isSome] := by
  unfold nmT
  cases nmV l <;> rfl
/-- What takeSign answers. -/
def TkP (S : Sen) (f : Nat) (v : ByteArray) (s : Sg) (g : Nat) (w0 : World) (w : World) (e : Ending) (w' : World) : Prop :=
  e = .returned (if (tkV f v s).2 then .nilIface else flt S.fi (f : Int) (((hdS f).size : Nat) : Int)) ∧ w'.heap[g]? = some (.cells (tkV f v s).1.arr 23 (0, 0)) ∧ Below w0.heap.size w0 w' ∧ w.heap.size ≤ w'.heap.size ∧ ∀ j, j < w.heap.size → j ≠ g → w'.heap[j]? = w.heap[j]?
theorem flt_eq (a : Addr) (x y : Int) : flt a x y = .iface 44 (.agg (fltA a x y)) := rfl
section
variable {S : Sen} {v : ByteArray} {s : Sg} {g : Nat} {w0 w : World}
set_option maxRecDepth 100000 in
set_option maxHeartbeats 3200000 in
theorem take12 (hw0 : Wd S w0) (hb : Below w0.heap.size w0 w) (hg0 : w0.heap.size ≤ g) (hg : w.heap[g]? = some (.cells s.arr 23 (0, 0))) :
    Calls Tryd.prog 18 #[.pointer (some ⟨g, 0, none⟩), .int .i64 12, .string v] w (TkP S 12 v s g w0 w) := by
  obtain ⟨q0, -, -⟩ := sgA_cells (st := s.st) (m := s.m) (pr := (s.pr : Int)) hg
  have f0 : w.frozen? ⟨g, 0, none⟩ = false := frozen_of_row _ _ _ _ _ hg
  obtain ⟨W, hW⟩ : ∃ W, w.setCell ⟨g, 0, none⟩ (.string v) = W := ⟨_, rfl⟩
  have bW : Below w0.heap.size w0 W := by rw [← hW]; exact hb.setCell (by simpa using hg0) _
  have HG : Hid (W.heap[g]? = some (.cells (tkV 12 v s).1.arr 23 (0, 0))) := by show _ = _; rw [← hW]; exact (set_sgA (st := s.st) (m := s.m) (pr := (s.pr : Int)) hg).1 v
  have HO : Hid (Below w0.heap.size w0 W ∧ w.heap.size ≤ W.heap.size ∧ ∀ j, j < w.heap.size → j ≠ g → W.heap[j]? = w.heap[j]?) := ⟨bW, by rw [← hW]; simp, fun j _ hne => by rw [← hW]; exact heap_setCell_other _ _ _ _ hne⟩
  have CW : Hid _ := wrong_any 12 (by omega) (by omega) S W (hw0.below bW)
  have HW : Hid _ := hW
  have h2 : (tkV 12 v s).2 = (v.toList == [47, 103, 114, 97, 102, 116, 47, 115, 116, 111, 114, 101]) := rfl
  have HGL : Hid (g < W.heap.size) := (Array.getElem?_eq_some_iff.1 HG.out).1
  clear hW bW hg hb hw0 hg0
  cases hv : (v.toList == [47, 103, 114, 97, 102, 116, 47, 115, 116, 111, 114, 101]) with
  | true =>
    have HV : Hid ((tkV 12 v s).2 = true) := by show _ = _; rw [h2, hv]
    clear h2 CW
    go_enter Tryd.func18, Tryd.ntmps18
    go_wp2
    go_ret
    rw [HW.out]
    exact ⟨by rw [HV.out]; rfl, HG.out, HO.out⟩
  | false =>
    have HV : Hid ((tkV 12 v s).2 = false) := by show _ = _; rw [h2, hv]
    clear h2
    go_enter Tryd.func18, Tryd.ntmps18
    go_wp2_with fail
    rw [HW.out]
    refine Calls.mono CW.out ?_
    rintro e W2 ⟨rfl, b2⟩
    have HG2 : Hid (W2.heap[g]? = some (.cells (tkV 12 v s).1.arr 23 (0, 0))) := (b2.block _ HGL.out).trans HG.out
    have HO2 : Hid (Below w0.heap.size w0 W2 ∧ w.heap.size ≤ W2.heap.size ∧ ∀ j, j < w.heap.size → j ≠ g → W2.heap[j]? = w.heap[j]?) := ⟨HO.out.1.trans (b2.mono HO.out.1.size), Nat.le_trans HO.out.2.1 b2.size, fun j h1 h2 => (b2.block j (Nat.lt_of_lt_of_le h1 HO.out.2.1)).trans (HO.out.2.2 j h1 h2)⟩
    clear CW b2 HW
    go_wp2
    go_ret
    exact ⟨by rw [HV.out]; rfl, HG2.out, HO2.out⟩
set_option maxRecDepth 100000 in
set_option maxHeartbeats 3200000 in
theorem take13 (hw0 : Wd S w0) (hb : Below w0.heap.size w0 w) (hg0 : w0.heap.size ≤ g) (hg : w.heap[g]? = some (.cells s.arr 23 (0, 0))) :
    Calls Tryd.prog 18 #[.pointer (some ⟨g, 0, none⟩), .int .i64 13, .string v] w (TkP S 13 v s g w0 w) := by
  obtain ⟨-, q1, -⟩ := sgA_cells (st := s.st) (m := s.m) (pr := (s.pr : Int)) hg
  have f1 : w.frozen? ⟨g, 1, none⟩ = false := frozen_of_row _ _ _ _ _ hg
  obtain ⟨x, hx⟩ : ∃ x : Bool, x = (v.toList == [49]) := ⟨_, rfl⟩
  obtain ⟨W, hW⟩ : ∃ W, w.setCell ⟨g, 1, none⟩ (.bool x) = W := ⟨_, rfl⟩
  have bW : Below w0.heap.size w0 W := by rw [← hW]; exact hb.setCell (by simpa using hg0) _
  have HG : Hid (W.heap[g]? = some (.cells (tkV 13 v s).1.arr 23 (0, 0))) := by show _ = _; rw [← hW, hx]; exact (set_sgA (st := s.st) (m := s.m) (pr := (s.pr : Int)) hg).2.1 _
  have HO : Hid (Below w0.heap.size w0 W ∧ w.heap.size ≤ W.heap.size ∧ ∀ j, j < w.heap.size → j ≠ g → W.heap[j]? = w.heap[j]?) := ⟨bW, by rw [← hW]; simp, fun j _ hne => by rw [← hW]; exact heap_setCell_other _ _ _ _ hne⟩
  have CW : Hid _ := wrong_any 13 (by omega) (by omega) S W (hw0.below bW)
  have HW : Hid _ := hW
  have h2 : (tkV 13 v s).2 = (v.toList == [48] || v.toList == [49]) := rfl
  have HGL : Hid (g < W.heap.size) := (Array.getElem?_eq_some_iff.1 HG.out).1
  clear hW bW hg hb hw0 hg0
  have hcase : ((v.toList == [48]) = true ∧ (v.toList == [49]) = false) ∨ ((v.toList == [48]) = false ∧ (v.toList == [49]) = true) ∨ ((v.toList == [48]) = false ∧ (v.toList == [49]) = false) := by
    cases h0 : (v.toList == [48]) with
    | false => cases h1 : (v.toList == [49]) with
      | false => exact .inr (.inr ⟨rfl, rfl⟩)
      | true => exact .inr (.inl ⟨rfl, rfl⟩)
    | true =>
      have e0 := beq_iff_eq.1 h0
      refine .inl ⟨rfl, ?_⟩
      rw [e0]
      decide
  rcases hcase with ⟨v0, v1⟩ | ⟨v0, v1⟩ | ⟨v0, v1⟩
  · have HV : Hid ((tkV 13 v s).2 = true) := by show _ = _; rw [h2, v0]; rfl
    rw [v1] at hx
    subst hx
    clear h2 CW
    go_enter Tryd.func18, Tryd.ntmps18
    go_wp2
    go_ret
    rw [HW.out]
    exact ⟨by rw [HV.out]; rfl, HG.out, HO.out⟩
  · have HV : Hid ((tkV 13 v s).2 = true) := by show _ = _; rw [h2, v0, v1]; rfl
    rw [v1] at hx
    subst hx
    clear h2 CW
    go_enter Tryd.func18, Tryd.ntmps18
    go_wp2
    go_ret
    rw [HW.out]
    exact ⟨by rw [HV.out]; rfl, HG.out, HO.out⟩
  · have HV : Hid ((tkV 13 v s).2 = false) := by show _ = _; rw [h2, v0, v1]; rfl
    rw [v1] at hx
    subst hx
    clear h2
    go_enter Tryd.func18, Tryd.ntmps18
    go_wp2_with fail
    rw [HW.out]
    refine Calls.mono CW.out ?_
    rintro e W2 ⟨rfl, b2⟩
    have HG2 : Hid (W2.heap[g]? = some (.cells (tkV 13 v s).1.arr 23 (0, 0))) := (b2.block _ HGL.out).trans HG.out
    have HO2 : Hid (Below w0.heap.size w0 W2 ∧ w.heap.size ≤ W2.heap.size ∧ ∀ j, j < w.heap.size → j ≠ g → W2.heap[j]? = w.heap[j]?) := ⟨HO.out.1.trans (b2.mono HO.out.1.size), Nat.le_trans HO.out.2.1 b2.size, fun j h1 h2 => (b2.block j (Nat.lt_of_lt_of_le h1 HO.out.2.1)).trans (HO.out.2.2 j h1 h2)⟩
    clear CW b2 HW
    go_wp2
    go_ret
    exact ⟨by rw [HV.out]; rfl, HG2.out, HO2.out⟩
set_option maxRecDepth 100000 in
set_option maxHeartbeats 3200000 in
theorem take14 (hv : v.size ≤ 131072) (hw0 : Wd S w0) (hb : Below w0.heap.size w0 w) (hg0 : w0.heap.size ≤ g) (hg : w.heap[g]? = some (.cells s.arr 23 (0, 0))) :
    Calls Tryd.prog 18 #[.pointer (some ⟨g, 0, none⟩), .int .i64 14, .string v] w (TkP S 14 v s g w0 w) := by
  have CN0 := readNumber_any v (by omega) S w (hw0.below hb)
  rw [nmT_eq] at CN0
  obtain ⟨n, hn⟩ : ∃ n, n = (nmV v.data.toList).getD 0 := ⟨_, rfl⟩
  obtain ⟨ok, hok⟩ : ∃ ok, ok = (nmV v.data.toList).isSome := ⟨_, rfl⟩
  rw [← hn, ← hok] at CN0
  have CN : Hid _ := CN0
  have HT : Hid ((tkV 14 v s).1 = { s with pr := n } ∧ (tkV 14 v s).2 = ok) := ⟨by rw [hn]; rfl, by rw [hok]; rfl⟩
  have H0 : Hid (Wd S w0 ∧ Below w0.heap.size w0 w ∧ w0.heap.size ≤ g ∧ w.heap[g]? = some (.cells s.arr 23 (0, 0))) := ⟨hw0, hb, hg0, hg⟩
  clear CN0 hn hok hw0 hb hg0 hg hv
  go_enter Tryd.func18, Tryd.ntmps18
  go_wp2_with fail
  refine Calls.mono CN.out ?_
  rintro e W1 ⟨rfl, b1⟩
  have hgl : g < w.heap.size := (Array.getElem?_eq_some_iff.1 H0.out.2.2.2).1
  have hg1 : W1.heap[g]? = some (.cells s.arr 23 (0, 0)) := (b1.block _ hgl).trans H0.out.2.2.2
  obtain ⟨-, -, q2⟩ := sgA_cells (st := s.st) (m := s.m) (pr := (s.pr : Int)) hg1
  have f2 : W1.frozen? ⟨g, 2, none⟩ = false := frozen_of_row _ _ _ _ _ hg1
  obtain ⟨W, hW⟩ : ∃ W, W1.setCell ⟨g, 2, none⟩ (.int .i64 (n : Int)) = W := ⟨_, rfl⟩
  have b01 : Below w0.heap.size w0 W1 := H0.out.2.1.trans (b1.mono H0.out.2.1.size)
  have bW : Below w0.heap.size w0 W := by rw [← hW]; exact b01.setCell (by simpa using H0.out.2.2.1) _
  have HG : Hid (W.heap[g]? = some (.cells (tkV 14 v s).1.arr 23 (0, 0))) := by show _ = _; rw [← hW, HT.out.1]; exact (set_sgA (st := s.st) (m := s.m) (pr := (s.pr : Int)) hg1).2.2 _
  have HO : Hid (Below w0.heap.size w0 W ∧ w.heap.size ≤ W.heap.size ∧ ∀ j, j < w.heap.size → j ≠ g → W.heap[j]? = w.heap[j]?) := ⟨bW, by rw [← hW]; simpa using b1.size, fun j hj hne => by rw [← hW]; exact (heap_setCell_other _ _ _ _ hne).trans (b1.block j hj)⟩
  have CW : Hid _ := wrong_any 14 (by omega) (by omega) S W (H0.out.1.below bW)
  have HW : Hid _ := hW
  have HGL : Hid (g < W.heap.size) := (Array.getElem?_eq_some_iff.1 HG.out).1
  clear hW bW hg1 b1 b01 CN hgl
  cases ok with
  | true =>
    clear CW
    go_wp2
    go_ret
    rw [HW.out]
    exact ⟨by rw [HT.out.2]; rfl, HG.out, HO.out⟩
  | false =>
    go_wp2_with fail
    rw [HW.out]
    refine Calls.mono CW.out ?_
    rintro e W2 ⟨rfl, b2⟩
    have HG2 : Hid (W2.heap[g]? = some (.cells (tkV 14 v s).1.arr 23 (0, 0))) := (b2.block _ HGL.out).trans HG.out
    have HO2 : Hid (Below w0.heap.size w0 W2 ∧ w.heap.size ≤ W2.heap.size ∧ ∀ j, j < w.heap.size → j ≠ g → W2.heap[j]? = w.heap[j]?) := ⟨HO.out.1.trans (b2.mono HO.out.1.size), Nat.le_trans HO.out.2.1 b2.size, fun j h1 h2 => (b2.block j (Nat.lt_of_lt_of_le h1 HO.out.2.1)).trans (HO.out.2.2 j h1 h2)⟩
    clear CW b2 HW
    go_wp2
    go_ret
    exact ⟨by rw [HT.out.2]; rfl, HG2.out, HO2.out⟩
end
theorem take_any (f : Nat) (h1 : 12 ≤ f) (h2 : f ≤ 14) {S : Sen} {v : ByteArray} {s : Sg} {g : Nat} {w0 w : World} (hv : v.size ≤ 131072) (hw0 : Wd S w0) (hb : Below w0.heap.size w0 w) (hg0 : w0.heap.size ≤ g) (hg : w.heap[g]? = some (.cells s.arr 23 (0, 0))) :
    Calls Tryd.prog 18 #[.pointer (some ⟨g, 0, none⟩), .int .i64 (f : Int), .string v] w (TkP S f v s g w0 w) := by
  have hf : f = 12 ∨ f = 13 ∨ f = 14 := by omega
  rcases hf with rfl | rfl | rfl
  · exact take12 hw0 hb hg0 hg
  · exact take13 hw0 hb hg0 hg
  · exact take14 hv hw0 hb hg0 hg
end Go.Proofs.YtgimkeklnpppjaaDoor
