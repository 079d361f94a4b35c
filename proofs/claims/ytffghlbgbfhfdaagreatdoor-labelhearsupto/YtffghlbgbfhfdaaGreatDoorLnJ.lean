/- Several texts in one: LnR, LnH, LnI. -/
import Derived.Test.YtffghlbgbfhfdaaGreatDoorLnM
import Derived.Test.YtffghlbgbfhfdaaGreatDoorWorks
import Derived.Test.YtffghlbgbfhfdaaGreatDoorSr7
import Derived.BigRegion
import Derived.Shelf.Strconv.Atoi
import Derived.Lib.AtoiErrMem
/- readRefs. -/
namespace Go.Proofs.YtffghlbgbfhfdaaGreatDoor
open Go.RowKit Go.Shelf Go.Sort
/-- A finger's cells by its fields. -/
def fgA (k : Int) (v : Value) (sf : Bool) (o : ByteArray) (ix : Int) (sm : List Nat) (nm : ByteArray) : Array Value := #[.int .i64 k, v, .bool sf, .string o, .int .i64 ix] ++ bs sm ++ #[.string nm]
theorem fing_fgA (f : Fg) : fing f = fgA f.k f.v f.self f.out f.ix f.sm f.nm := rfl
theorem fgA_size (k : Int) (v : Value) (sf : Bool) (o : ByteArray) (ix : Int) (sm : List Nat) (nm : ByteArray) (h : sm.length = 32) : (fgA k v sf o ix sm nm).size = 38 := by simp [fgA, bs_size, h]
theorem fgA_set (k : Int) (v : Value) (sf : Bool) (o : ByteArray) (ix : Int) (sm : List Nat) (nm : ByteArray) :
    (∀ k' : Int, (fgA k v sf o ix sm nm).setIfInBounds 0 (.int .i64 k') = fgA k' v sf o ix sm nm) ∧ (∀ v' : Value, (fgA k v sf o ix sm nm).setIfInBounds 1 v' = fgA k v' sf o ix sm nm) ∧ (∀ sf' : Bool, (fgA k v sf o ix sm nm).setIfInBounds 2 (.bool sf') = fgA k v sf' o ix sm nm) ∧ (∀ o' : ByteArray, (fgA k v sf o ix sm nm).setIfInBounds 3 (.string o') = fgA k v sf o' ix sm nm) ∧ (∀ ix' : Int, (fgA k v sf o ix sm nm).setIfInBounds 4 (.int .i64 ix') = fgA k v sf o ix' sm nm) := by
  refine ⟨fun _ => ?_, fun _ => ?_, fun _ => ?_, fun _ => ?_, fun _ => ?_⟩ <;>
  · unfold fgA
    rw [Array.append_assoc, Array.append_assoc, Array.setIfInBounds_append_left (by simp)]
    rfl
theorem fgA_cells {k : Int} {v : Value} {sf : Bool} {o : ByteArray} {ix : Int} {sm : List Nat} {nm : ByteArray} {g : Nat} {W : World} (h : W.heap[g]? = some (.cells (fgA k v sf o ix sm nm) 26 (0, 0))) : W.cell? ⟨g, 0, none⟩ = some (.int .i64 k) ∧ W.cell? ⟨g, 1, none⟩ = some v ∧ W.cell? ⟨g, 2, none⟩ = some (.bool sf) ∧ W.cell? ⟨g, 3, none⟩ = some (.string o) ∧ W.cell? ⟨g, 4, none⟩ = some (.int .i64 ix) := by
  have q : ∀ i, i < 5 → W.cell? ⟨g, i, none⟩ = (#[.int .i64 k, v, .bool sf, .string o, .int .i64 ix] : Array Value)[i]? := fun i hi => by
    rw [cell_of_row _ _ _ _ _ _ h, fgA, Array.append_assoc, Array.getElem?_append_left (by simpa using hi)]
  exact ⟨q 0 (by omega), q 1 (by omega), q 2 (by omega), q 3 (by omega), q 4 (by omega)⟩
def bs1R (ps : Array (Nat × Value)) : Sem Value := Instr.buildSlice 22 1 ps
theorem toBs1 (ps : Array (Nat × Value)) : Instr.buildSlice 22 1 ps = bs1R ps := rfl
set_option maxRecDepth 100000 in
theorem bs1_20 (w : World) (a0 a1 a2 a3 a4 a5 a6 a7 a8 a9 a10 a11 a12 a13 a14 a15 a16 a17 a18 a19 : Nat) (s : ByteArray) : (Instr.buildSlice 22 1 #[(0, .agg (lab [a0, a1, a2, a3, a4, a5, a6, a7, a8, a9, a10, a11, a12, a13, a14, a15, a16, a17, a18, a19] s))]).run Tryz.prog w = .ok (.slice (some ⟨w.heap.size, 0, none⟩) 1 1) (w.alloc (.cells (lab [a0, a1, a2, a3, a4, a5, a6, a7, a8, a9, a10, a11, a12, a13, a14, a15, a16, a17, a18, a19] s) 51)) := by kernel_rfl
set_option maxRecDepth 100000 in
theorem run_bs1' (w : World) (h : List Nat) (hl : h.length = 20) (s : ByteArray) : (bs1R #[(0, .agg (lab h s))]).run Tryz.prog w = .ok (.slice (some ⟨w.heap.size, 0, none⟩) 1 1) (w.alloc (.cells (lab h s) 51)) := by
  match h, hl with
  | [a0, a1, a2, a3, a4, a5, a6, a7, a8, a9, a10, a11, a12, a13, a14, a15, a16, a17, a18, a19], _ => exact bs1_20 w a0 a1 a2 a3 a4 a5 a6 a7 a8 a9 a10 a11 a12 a13 a14 a15 a16 a17 a18 a19 s
/-- One label more behind a list that is owned. -/
theorem step_one {W : World} {B n : Nat} {v : Value} {O : List Lb} (ho : W.ownsRow B 51 21 v n (cells O)) (hB : B ≤ W.heap.size) (hn : n ≤ 1073741824) (x : Lb) :
    ∃ u W2, (bs1R #[(0, .agg (lab x.h x.s))]).run Tryz.prog W = .ok (.slice (some ⟨W.heap.size, 0, none⟩) 1 1) (W.alloc (.cells (lab x.h x.s) 51)) ∧ (apL 22 #[v, .slice (some ⟨W.heap.size, 0, none⟩) 1 1]).run Tryz.prog (W.alloc (.cells (lab x.h x.s) 51)) = .ok u W2 ∧ W2.ownsRow B 51 21 u (n + 1) (cells (O ++ [x])) ∧ Below B W W2 := by
  have hrow : (W.alloc (.cells (lab x.h x.s) 51)).heap[W.heap.size]? = some (.cells (lab x.h x.s) 51 (0, 0)) := heap_alloc_new _ _
  have hls : Ls (.slice (some ⟨W.heap.size, 0, none⟩) 1 1) [x] (W.alloc (.cells (lab x.h x.s) 51)) := .inr ⟨W.heap.size, 0, 1, rfl, Nat.le_refl _, by unfold maxLen; omega, (Array.getElem?_eq_some_iff.1 hrow).1, lr_row hrow (by rw [cells_single]; rfl)⟩
  obtain ⟨u, W2, a2, o2, b2⟩ := run_apS (W.alloc (.cells (lab x.h x.s) 51)) B n 22 v _ O [x] (ho.alloc _) hls (by show n + 1 ≤ _; omega) (by simp; omega)
  exact ⟨u, W2, run_bs1' W x.h x.hl x.s, a2, o2, ((Below.refl B W).alloc hB _).trans b2⟩
/-- What Cut says of parts. -/
theorem cut_last (p : List UInt8) (hp : (58 : UInt8) ∉ p) : cutV p = .tuple #[.string (ofL p), .string ⟨#[]⟩, .bool false] := by
  rw [cutV, pre_all p hp, if_neg (by omega)]
theorem cut_more (p q : List UInt8) (hp : (58 : UInt8) ∉ p) : cutV (p ++ 58 :: q) = .tuple #[.string (ofL p), .string (ofL q), .bool true] := by
  rw [cutV, pre_no p q hp, if_pos (by simp)]
  have : (p ++ 58 :: q).drop (p.length + 1) = q := by
    rw [List.drop_append]
    simp
  rw [this]
def szOf : Value → Nat
  | .string s => s.size
  | _ => 0
/-- The parts that are left: the text, and whether there is one. -/
structure Rst (ps : List (List UInt8)) (r : ByteArray) (b : Bool) : Prop where
  none : ps = [] → b = false
  some : ∀ p q, ps = p :: q → b = true ∧ bl r = p ++ fl q
theorem cut_rst {ps : List (List UInt8)} {p : List UInt8} {r : ByteArray} {b : Bool} (h : Rst (p :: ps) r b) (hp : (58 : UInt8) ∉ p) : ∃ r' b', cutV (bl r) = .tuple #[.string (ofL p), .string r', .bool b'] ∧ Rst ps r' b' ∧ (p ≠ [] → r'.size < r.size) ∧ (ps = [] → r' = ⟨#[]⟩) := by
  have e := (h.some p ps rfl).2
  have hz : r.size = (p ++ fl ps).length := by rw [← bl_len, e]
  cases ps with
  | nil =>
    rw [fl_nil, List.append_nil] at e hz
    refine ⟨⟨#[]⟩, false, by rw [e, cut_last p hp], ⟨fun _ => rfl, fun _ _ q => by cases q⟩, fun hne => ?_, fun _ => rfl⟩
    have : 0 < p.length := List.length_pos_iff.2 hne
    show 0 < r.size
    omega
  | cons y ys =>
    rw [fl_cons] at e hz
    refine ⟨ofL (y ++ fl ys), true, by rw [e, cut_more p _ hp], ⟨(fun q => by cases q), fun p' q' q => ?_⟩, fun _ => ?_, (fun q => by cases q)⟩
    · injection q with q1 q2
      subst q1 q2
      exact ⟨rfl, rfl⟩
    · rw [ofL_size]
      simp at hz
      simp
      omega
theorem beq_off {a b : List UInt8} (h : ¬ a = b) : (a == b) = false := by
  cases hq : (a == b) with
  | false => rfl
  | true => exact absurd (beq_iff_eq.1 hq) h
theorem set_fgA {k : Int} {v : Value} {sf : Bool} {o : ByteArray} {ix : Int} {sm : List Nat} {nm : ByteArray} {g : Nat} {W : World} (h : W.heap[g]? = some (.cells (fgA k v sf o ix sm nm) 26 (0, 0))) :
    (∀ k' : Int, (W.setCell ⟨g, 0, none⟩ (.int .i64 k')).heap[g]? = some (.cells (fgA k' v sf o ix sm nm) 26 (0, 0))) ∧ (∀ v' : Value, (W.setCell ⟨g, 1, none⟩ v').heap[g]? = some (.cells (fgA k v' sf o ix sm nm) 26 (0, 0))) ∧ (∀ sf' : Bool, (W.setCell ⟨g, 2, none⟩ (.bool sf')).heap[g]? = some (.cells (fgA k v sf' o ix sm nm) 26 (0, 0))) ∧ (∀ o' : ByteArray, (W.setCell ⟨g, 3, none⟩ (.string o')).heap[g]? = some (.cells (fgA k v sf o' ix sm nm) 26 (0, 0))) ∧ (∀ ix' : Int, (W.setCell ⟨g, 4, none⟩ (.int .i64 ix')).heap[g]? = some (.cells (fgA k v sf o ix' sm nm) 26 (0, 0))) := by
  obtain ⟨s0, s1, s2, s3, s4⟩ := fgA_set k v sf o ix sm nm
  exact ⟨fun x => by rw [← s0 x]; exact heap_setCell_same _ _ _ _ _ _ h, fun x => by rw [← s1 x]; exact heap_setCell_same _ _ _ _ _ _ h, fun x => by rw [← s2 x]; exact heap_setCell_same _ _ _ _ _ _ h, fun x => by rw [← s3 x]; exact heap_setCell_same _ _ _ _ _ _ h, fun x => by rw [← s4 x]; exact heap_setCell_same _ _ _ _ _ _ h⟩
theorem Tk.touch {w w' : World} {g : Nat} (h : Tk w) (t : Touch g w w') (hg : 4 < g) : Tk w' := h.keep t.size (t.block _ h.sz (by omega))
theorem Tx.touch {w w' : World} {g : Nat} (h : Tx w) (t : Touch g w w') (hg : 4 < g) : Tx w' := h.keep t.size (fun j hj => t.block j (by have := h.sz; omega) (by omega))
theorem own_far {W : World} {B n g i : Nat} {v u : Value} {xs : List Value} (h : W.ownsRow B 51 21 v n xs) (hg : g < B) : (W.setCell ⟨g, i, none⟩ u).ownsRow B 51 21 v n xs := by
  obtain ⟨k1, k2⟩ := h
  refine ⟨k1, k2.imp_right ?_⟩
  rintro ⟨g', cap, cur, e1, e2, e3, e4⟩
  have hne : g' ≠ g := by omega
  exact ⟨g', cap, cur, e1, e2, (heap_setCell_other _ _ _ _ hne).trans e3, e4⟩
theorem own_down {w : World} {B B' e n s : Nat} {v : Value} {xs : List Value} (h : w.ownsRow B e s v n xs) (hb : B' ≤ B) : w.ownsRow B' e s v n xs := by
  obtain ⟨k1, k2⟩ := h
  exact ⟨k1, k2.imp_right fun ⟨g, cap, cur, q1, q2, q3⟩ => ⟨g, cap, cur, q1, by omega, q3⟩⟩
theorem own_row' {W : World} {B n g : Nat} {v : Value} {xs : List Value} (h : W.ownsRow B 51 21 v n xs) (hg : g < B) (C : Array Value) : (W.setRow g C).ownsRow B 51 21 v n xs := by
  obtain ⟨k1, k2⟩ := h
  refine ⟨k1, k2.imp_right ?_⟩
  rintro ⟨g', cap, cur, e1, e2, e3, e4⟩
  have hne : g' ≠ g := by omega
  exact ⟨g', cap, cur, e1, e2, (setRow_other _ _ _ _ hne).trans e3, e4⟩
/-- What holds while the references are read. -/
structure Rr (k : Int) (o : ByteArray) (ix : Int) (sm : List Nat) (nm : ByteArray) (g : Nat) (w : World) (v : Value) (A : List Lb) (W : World) : Prop where
  row : W.heap[g]? = some (.cells (fgA k v false o ix sm nm) 26 (0, 0))
  own : W.ownsRow w.heap.size 51 21 v A.length (cells A)
  tx : Tx W
  gl : g < w.heap.size
  tch : Touch g w W
theorem tch_below {g : Nat} {w W W' : World} (h : Touch g w W) (b : Below W.heap.size W W') : Touch g w W' := h.trans (Touch.of_below b)
theorem Rr.below {k : Int} {o : ByteArray} {ix : Int} {sm : List Nat} {nm : ByteArray} {g : Nat} {w : World} {v : Value} {A : List Lb} {W W' : World} (h : Rr k o ix sm nm g w v A W) (b : Below W.heap.size W W') : Rr k o ix sm nm g w v A W' :=
  ⟨(b.block _ (Array.getElem?_eq_some_iff.1 h.row).1).trans h.row, own_below h.own b, h.tx.below b h.tx.sz, h.gl, tch_below h.tch b⟩
attribute [local go_sem ↓] to25s to25l toBs1 toAp
set_option maxRecDepth 100000 in
set_option maxHeartbeats 3200000 in
theorem refs_read (A : List Lb) (hA : ∀ x ∈ A, okN x.s = 0 ∧ Byt x.h) (hl : A.length ≤ 256) (sf : Bool) (r : ByteArray) (b : Bool) (hr : Rst (A.map prT ++ (if sf then [bl selfW] else [])) r b) (hrs : r.size ≤ 1099511627776) (k : Int) (o : ByteArray) (ix : Int) (sm : List Nat) (nm : ByteArray) (g : Nat) (w : World) (hx : Tx w) (hg : w.heap[g]? = some (.cells (fgA k (.slice none 0 0) false o ix sm nm) 26 (0, 0))) (hg5 : 4 < g) :
    Calls Tryz.prog 31 #[.pointer (some ⟨g, 0, none⟩), .string r, .bool b] w fun e w' => e = .returned (.bool true) ∧ ∃ v, w'.heap[g]? = some (.cells (fgA k v sf o ix sm nm) 26 (0, 0)) ∧ w'.ownsRow w.heap.size 51 21 v A.length (cells A) ∧ Touch g w w' := by
  have R0 : Rr k o ix sm nm g w (.slice none 0 0) [] w := ⟨hg, by rw [cells_nil]; exact World.ownsRow_nil _ _ _ _, hx, (Array.getElem?_eq_some_iff.1 hg).1, Touch.refl _ _⟩
  have HR0 : Hid _ := R0
  have HA : Hid (∀ x ∈ A, okN x.s = 0 ∧ Byt x.h) := hA
  have HR : Hid (Rst ((A.drop 0).map prT ++ (if sf then [bl selfW] else [])) r b) := hr
  have HL : Hid (A.length ≤ 256) := hl
  have HZ : Hid (r.size ≤ 1099511627776) := hrs
  have HG5 : Hid (4 < g) := hg5
  clear hA hr hx hg R0 hl hrs hg5
  go_enter Tryz.func31, Tryz.ntmps31
  go_wp2_with fail
  go_loopw [1, 2] (fun rv bv wr => ∃ (m : Nat) (r : ByteArray) (b : Bool) (v : Value), rv = .string r ∧ bv = .bool b ∧ m ≤ A.length ∧ Hid (Rst ((A.drop m).map prT ++ (if sf then [bl selfW] else [])) r b) ∧ Hid (r.size ≤ 1099511627776) ∧ Hid (Rr k o ix sm nm g w v (A.take m) wr)) (fun rv _ _ => szOf rv)
  case atStart => exact ⟨0, r, b, .slice none 0 0, rfl, rfl, by omega, HR, HZ, by rw [List.take_zero]; exact HR0⟩
  case round =>
    clear HR HZ HR0
    obtain ⟨m, r, b, v, rfl, rfl, hm, HR, HZ, HS⟩ := hrel
    by_cases hlt : m < A.length
    · obtain ⟨x, hx⟩ : ∃ x, A[m]? = some x := ⟨_, List.getElem?_eq_getElem hlt⟩
      have hxe : A[m] = x := by rw [List.getElem?_eq_getElem hlt] at hx; exact Option.some.inj hx
      have hd : A.drop m = x :: A.drop (m + 1) := by rw [List.drop_eq_getElem_cons hlt, hxe]
      have hR := HR.out
      rw [hd, List.map_cons, List.cons_append] at hR
      obtain rfl : b = true := (hR.some _ _ rfl).1
      obtain ⟨xo, xb⟩ := HA.out x (List.mem_of_getElem? hx)
      obtain ⟨r', b', hc, hrst, hlt2, -⟩ := cut_rst hR (prT_nc xo)
      have HLT : Hid (r'.size < r.size) := hlt2 (fun e => by
        have := congrArg List.length e
        rw [prT, bl_len, prS, app_size] at this
        have h13 : store.size = 13 := rfl
        simp [h13] at this)
      have hcc : cutV r.data.toList = .tuple #[.string (prS x), .string r', .bool b'] := hc
      have CC : Hid _ := cut_any r HZ.out wr
      rw [hcc] at CC
      have hne : ((prS x).toList == [115, 101, 108, 102]) = false := beq_off (fun e => prT_self x (by rw [prT, bl, ← ByteArray.toList_eq, e]; rfl))
      have HT : Hid (A.take (m + 1) = A.take m ++ [x]) := by show _ = _; rw [List.take_succ_eq_append_getElem hlt, hxe]
      have HRS : Hid (Rst ((A.drop (m + 1)).map prT ++ (if sf then [bl selfW] else [])) r' b') := hrst
      have HZ2 : Hid (r'.size ≤ 1099511627776) := by have h1 := HZ.out; have h2 := HLT.out; show _ ≤ _; omega
      have HXO : Hid (okN x.s = 0 ∧ Byt x.h) := ⟨xo, xb⟩
      have hml : (A.take m).length = m := by rw [List.length_take]; omega
      clear hx hxe hd hR hc hrst hlt2 hcc xo xb HR
      go_wp2_with fail
      refine Calls.mono CC.out ?_
      rintro e W1 ⟨rfl, b1⟩
      have HS1 : Hid (Rr k o ix sm nm g w v (A.take m) W1) := HS.out.below b1
      have CP : Hid (Calls Tryz.prog 49 #[.string (prS x)] W1 _) := parse_label x.h HXO.out.2 x.hl x.s HXO.out.1 W1 HS1.out.tx
      clear CC b1 HS
      go_wp2_with fail
      refine Calls.mono CP.out ?_
      rintro e W2 ⟨rfl, b2⟩
      have HS2 : Hid (Rr k o ix sm nm g w v (A.take m) W2) := HS1.out.below b2
      obtain ⟨W3, s3, r3, b3⟩ := layL W2 x.h x.s x.hl
      have HS3 : Hid (Rr k o ix sm nm g w v (A.take m) W3) := HS2.out.below b3
      have HS4 : Hid (Rr k o ix sm nm g w v (A.take m) W3.drew) := HS3.out.below ⟨rfl, rfl, rfl, Nat.le_refl _, fun _ _ => rfl⟩
      have l3 := run_loadR25 W3.drew W2.heap.size x.h x.s r3 x.hl
      obtain ⟨q0, q1, q2, q3, q4⟩ := fgA_cells HS3.out.row
      have z3 : w.heap.size ≤ W3.drew.heap.size := HS3.out.tch.size
      obtain ⟨u, W4, a1, a2, o4, b4⟩ := step_one HS4.out.own z3 (by rw [hml]; have := HL.out; omega) x
      obtain ⟨oo, cc, hv, -, -⟩ := (own_Ls HS3.out.own).form
      rw [hml] at hv
      have hgl : g < W3.heap.size := (Array.getElem?_eq_some_iff.1 HS3.out.row).1
      have q1' : (W3.drew.alloc (.cells (lab x.h x.s) 51)).cell? ⟨g, 1, none⟩ = some v := (cell_al W3.drew g 1 hgl _).trans q1
      have row4 : W4.heap[g]? = some (.cells (fgA k v false o ix sm nm) 26 (0, 0)) := (b4.block g HS3.out.gl).trans HS3.out.row
      have f4 : W4.frozen? ⟨g, 1, none⟩ = false := frozen_of_row _ _ _ _ _ row4
      have c4 : W4.cell? ⟨g, 1, none⟩ = some v := (fgA_cells row4).2.1
      have ROW5 : Hid (Rr k o ix sm nm g w u (A.take (m + 1)) (W4.setCell ⟨g, 1, none⟩ u)) := by
        have gl := HS3.out.gl
        have g5 := HG5.out
        have tx4 : Tx W4 := HS4.out.tx.below b4 (by omega)
        have lm : (A.take (m + 1)).length = (A.take m).length + 1 := by rw [HT.out, List.length_append]; rfl
        refine ⟨(set_fgA row4).2.1 u, ?_, tx4.touch ((Touch.refl g W4).setCell u) g5, gl, Touch.setCell ⟨b4.os.trans HS4.out.tch.os, b4.tape.trans HS4.out.tch.tape, b4.output.trans HS4.out.tch.output, Nat.le_trans HS4.out.tch.size b4.size, fun j hj hne => (b4.block j hj).trans (HS4.out.tch.block j hj hne)⟩ u⟩
        rw [lm, HT.out]
        obtain ⟨k1, k2⟩ := o4
        exact own_far ⟨k1, k2⟩ gl
      subst hv
      obtain ⟨o3, c3, hu, -, -⟩ := (own_Ls o4).form
      have l4 : (A.take m ++ [x]).length = m + 1 := by rw [List.length_append, hml]; rfl
      rw [l4] at hu
      subst hu
      have a2' : (apL 22 #[.slice oo m cc, .slice (some ⟨W3.heap.size, 0, none⟩) 1 1]).run Tryz.prog (W3.alloc (.cells (lab x.h x.s) 51)).drew = .ok (.slice o3 (m + 1) c3) W4 := a2
      clear a2 l4
      have h256 : ¬ ((m : Int) = 256) := by have := HL.out; omega
      clear CP b2 HS1 HS2 HS3 HS4 r3 b3 q0 q2 q3 q4 hml o4 row4 z3 HXO
      go_wp2_with fail
      go_region
      clear a1 a2' l3 s3 q1 q1' c4 f4
      go_wp2
      exact ⟨⟨m + 1, r', b', _, rfl, rfl, hlt, HRS, HZ2, ROW5⟩, HLT.out⟩
    · have hme : m = A.length := by omega
      have hd : A.drop m = [] := List.drop_of_length_le (by omega)
      have ht : A.take m = A := List.take_of_length_le (by omega)
      have hR := HR.out
      rw [hd, List.map_nil, List.nil_append] at hR
      rw [ht] at HS
      cases sf with
      | false =>
        obtain rfl : b = false := hR.none rfl
        have HE : Hid (∃ v, wr.heap[g]? = some (.cells (fgA k v false o ix sm nm) 26 (0, 0)) ∧ wr.ownsRow w.heap.size 51 21 v A.length (cells A) ∧ Touch g w wr) := ⟨v, HS.out.row, HS.out.own, HS.out.tch⟩
        clear HS HR hR hd ht
        go_wp2
        go_ret
        exact ⟨rfl, HE.out⟩
      | true =>
        obtain rfl : b = true := (hR.some (bl selfW) [] rfl).1
        obtain ⟨r', b', hc, hrst, -, -⟩ := cut_rst (p := bl selfW) (ps := []) hR (by decide)
        obtain rfl : b' = false := hrst.none rfl
        have hcc : cutV r.data.toList = .tuple #[.string ⟨#[115, 101, 108, 102]⟩, .string r', .bool false] := hc
        have CC : Hid _ := cut_any r HZ.out wr
        rw [hcc] at CC
        clear HR hR hd ht hc hrst hcc
        go_wp2_with fail
        refine Calls.mono CC.out ?_
        rintro e W1 ⟨rfl, b1⟩
        have HS1 : Hid (Rr k o ix sm nm g w v A W1) := HS.out.below b1
        obtain ⟨-, -, q2, -, -⟩ := fgA_cells HS1.out.row
        have f2 : W1.frozen? ⟨g, 2, none⟩ = false := frozen_of_row _ _ _ _ _ HS1.out.row
        have HE : Hid (∃ v, (W1.setCell ⟨g, 2, none⟩ (.bool true)).heap[g]? = some (.cells (fgA k v true o ix sm nm) 26 (0, 0)) ∧ (W1.setCell ⟨g, 2, none⟩ (.bool true)).ownsRow w.heap.size 51 21 v A.length (cells A) ∧ Touch g w (W1.setCell ⟨g, 2, none⟩ (.bool true))) := by
          have gl := HS1.out.gl
          refine ⟨v, (set_fgA HS1.out.row).2.2.1 true, ?_, HS1.out.tch.setCell _⟩
          obtain ⟨k1, k2⟩ := HS1.out.own
          exact own_far ⟨k1, k2⟩ gl
        clear CC b1 HS HS1
        go_wp2
        go_ret
        exact ⟨rfl, HE.out⟩
end Go.Proofs.YtffghlbgbfhfdaaGreatDoor

/- readHead. -/
namespace Go.Proofs.YtffghlbgbfhfdaaGreatDoor
open Go.RowKit Go.Shelf Go.Sort
shelf_lay Lays.n172 Nm 172 at Tryz as Tryz.atL
theorem atoi_any (i : Nat) (hi : i < 64) (w : World) : Calls Tryz.prog 32 #[.string (itoaT i)] w fun e w' => e = .returned (.tuple #[.int .i64 (i : Int), .nilIface]) ∧ Below w.heap.size w w' :=
  (Any.strconv_Atoi Tryz.atL (itoaT i) (i : Int) (by have := itoaT_size i (by omega); omega) (atoi_itoa i hi) w).mono fun _ _ ⟨a, t, b⟩ => ⟨a, by rw [b]; exact Lib.bytesWorld_below _ _ _⟩
theorem head_rst (f : Fg) : Rst (bl (kwV f.k) :: ((dd (srt f.L)).map prT ++ tlP f)) (headT f) true :=
  ⟨(fun h => by cases h), fun p q h => by injection h with h1 h2; subst h1 h2; exact ⟨rfl, head_bl f⟩⟩
theorem tlP_12 {f : Fg} (h : f.k = 1 ∨ f.k = 2) : tlP f = if f.self then [bl selfW] else [] := by
  have h3 : ¬ f.k = 3 := by omega
  have h4 : ¬ f.k = 4 := by omega
  unfold tlP
  rw [if_neg h3, if_neg h4, List.append_nil]
theorem dd_none : dd (srt []) = [] := by
  have : srt [] = [] := by simp [srt]
  rw [this]
  rfl
/-- What readHead answers. -/
def HdP (f : Fg) (sm : List Nat) (nm : ByteArray) (g : Nat) (w : World) (e : Ending) (w' : World) : Prop :=
  e = .returned (.bool true) ∧ ∃ v, w'.heap[g]? = some (.cells (fgA f.k v f.self f.out f.ix sm nm) 26 (0, 0)) ∧ w'.ownsRow w.heap.size 51 21 v (dd (srt f.L)).length (cells (dd (srt f.L))) ∧ Touch g w w'
set_option maxRecDepth 100000 in
set_option maxHeartbeats 3200000 in
theorem hd_1 (f : Fg) (ok : Ok f) (hk1 : f.k = 1) (sm : List Nat) (nm : ByteArray) (g : Nat) (w : World) (hk : Tk w) (hx : Tx w) (hg5 : 4 < g) (hg : w.heap[g]? = some (.cells (fgA 0 (.slice none 0 0) false ⟨#[]⟩ 0 sm nm) 26 (0, 0))) :
    Calls Tryz.prog 14 #[.pointer (some ⟨g, 0, none⟩), .string (headT f)] w (HdP f sm nm g w) := by
  have hz := head_size ok
  obtain ⟨r', b', hc, hrst, hlt, -⟩ := cut_rst (head_rst f) (kwV_nc f.k)
  have hlt' := hlt (by rw [hk1]; decide)
  have hw : ofL (bl (kwV f.k)) = ⟨#[116, 101, 120, 116]⟩ := by rw [hk1]; rfl
  have CC : Hid _ := cut_any (headT f) (by omega) w
  have hcc : cutV (headT f).data.toList = _ := hc
  rw [hcc, hw] at CC
  obtain ⟨-, u2, u3, u4⟩ := un_facts ok
  have DO := dd_ok ok
  rw [tlP_12 (by omega)] at hrst
  have HRF : Hid (∀ W, Tx W → W.heap[g]? = some (.cells (fgA 1 (.slice none 0 0) false ⟨#[]⟩ 0 sm nm) 26 (0, 0)) → Calls Tryz.prog 31 #[.pointer (some ⟨g, 0, none⟩), .string r', .bool b'] W fun e w' => e = .returned (.bool true) ∧ ∃ v, w'.heap[g]? = some (.cells (fgA f.k v f.self f.out f.ix sm nm) 26 (0, 0)) ∧ w'.ownsRow W.heap.size 51 21 v (dd (srt f.L)).length (cells (dd (srt f.L))) ∧ Touch g W w') := fun W hW hGW => by
    have := refs_read (dd (srt f.L)) (fun x hx => ⟨(DO.2 x hx).1, (DO.2 x hx).2.2⟩) DO.1 f.self r' b' hrst (by omega) 1 ⟨#[]⟩ 0 sm nm g W hW hGW hg5
    rw [hk1, u3 (by omega), u4 (by omega)]
    exact this
  have HK : Hid (Tk w) := hk
  have HX : Hid (Tx w) := hx
  have HG : Hid (w.heap[g]? = some (.cells (fgA 0 (.slice none 0 0) false ⟨#[]⟩ 0 sm nm) 26 (0, 0))) := hg
  have HG5 : Hid (4 < g) := hg5
  clear hz hc hrst hlt hlt' hw hcc u2 u3 u4 DO hk hx hg hg5
  go_enter Tryz.func14, Tryz.ntmps14
  go_wp2_with fail
  refine Calls.mono CC.out ?_
  rintro e W1 ⟨rfl, b1⟩
  have HB1 : Hid (Below w.heap.size w W1) := b1
  have HG1 : Hid (W1.heap[g]? = some (.cells (fgA 0 (.slice none 0 0) false ⟨#[]⟩ 0 sm nm) 26 (0, 0))) := (b1.block g (Array.getElem?_eq_some_iff.1 HG.out).1).trans HG.out
  have T1 : Tk W1 := HK.out.below b1 HK.out.sz
  have HX1 : Hid (Tx W1) := HX.out.below b1 HX.out.sz
  obtain ⟨q0, -, -, -, -⟩ := fgA_cells HG1.out
  have f0 : W1.frozen? ⟨g, 0, none⟩ = false := frozen_of_row _ _ _ _ _ HG1.out
  have w1 := T1.w1
  have w2 := T1.w2
  have T0 : Touch g w W1 := Touch.of_below b1
  have HT : Hid (Touch g w (W1.setCell ⟨g, 0, none⟩ (.int .i64 1))) := T0.setCell _
  have TX2 : Touch g W1 (W1.setCell ⟨g, 0, none⟩ (.int .i64 1)) := (Touch.refl g W1).setCell _
  have CR : Hid _ := HRF.out (W1.setCell ⟨g, 0, none⟩ (.int .i64 1)) (HX1.out.touch TX2 HG5.out) ((set_fgA HG1.out).1 1)
  clear CC b1 T1 T0 TX2 HRF
  go_wp2_with fail
  refine Calls.mono CR.out ?_
  rintro e W3 ⟨rfl, v, h3, hl3, t3⟩
  have HE : Hid (∃ v, W3.heap[g]? = some (.cells (fgA f.k v f.self f.out f.ix sm nm) 26 (0, 0)) ∧ W3.ownsRow w.heap.size 51 21 v (dd (srt f.L)).length (cells (dd (srt f.L))) ∧ Touch g w W3) := ⟨v, h3, own_down hl3 HT.out.size, HT.out.trans t3⟩
  clear CR h3 hl3 t3 HT q0 w1 w2
  go_wp2
  go_ret
  exact ⟨rfl, HE.out⟩
set_option maxRecDepth 100000 in
set_option maxHeartbeats 3200000 in
theorem hd_2 (f : Fg) (ok : Ok f) (hk1 : f.k = 2) (sm : List Nat) (nm : ByteArray) (g : Nat) (w : World) (hk : Tk w) (hx : Tx w) (hg5 : 4 < g) (hg : w.heap[g]? = some (.cells (fgA 0 (.slice none 0 0) false ⟨#[]⟩ 0 sm nm) 26 (0, 0))) :
    Calls Tryz.prog 14 #[.pointer (some ⟨g, 0, none⟩), .string (headT f)] w (HdP f sm nm g w) := by
  have hz := head_size ok
  obtain ⟨r', b', hc, hrst, hlt, -⟩ := cut_rst (head_rst f) (kwV_nc f.k)
  have hlt' := hlt (by rw [hk1]; decide)
  have hw : ofL (bl (kwV f.k)) = ⟨#[115, 111, 117, 114, 99, 101]⟩ := by rw [hk1]; rfl
  have CC : Hid _ := cut_any (headT f) (by omega) w
  have hcc : cutV (headT f).data.toList = _ := hc
  rw [hcc, hw] at CC
  obtain ⟨-, u2, u3, u4⟩ := un_facts ok
  have DO := dd_ok ok
  rw [tlP_12 (by omega)] at hrst
  have HRF : Hid (∀ W, Tx W → W.heap[g]? = some (.cells (fgA 2 (.slice none 0 0) false ⟨#[]⟩ 0 sm nm) 26 (0, 0)) → Calls Tryz.prog 31 #[.pointer (some ⟨g, 0, none⟩), .string r', .bool b'] W fun e w' => e = .returned (.bool true) ∧ ∃ v, w'.heap[g]? = some (.cells (fgA f.k v f.self f.out f.ix sm nm) 26 (0, 0)) ∧ w'.ownsRow W.heap.size 51 21 v (dd (srt f.L)).length (cells (dd (srt f.L))) ∧ Touch g W w') := fun W hW hGW => by
    have := refs_read (dd (srt f.L)) (fun x hx => ⟨(DO.2 x hx).1, (DO.2 x hx).2.2⟩) DO.1 f.self r' b' hrst (by omega) 2 ⟨#[]⟩ 0 sm nm g W hW hGW hg5
    rw [hk1, u3 (by omega), u4 (by omega)]
    exact this
  have HK : Hid (Tk w) := hk
  have HX : Hid (Tx w) := hx
  have HG : Hid (w.heap[g]? = some (.cells (fgA 0 (.slice none 0 0) false ⟨#[]⟩ 0 sm nm) 26 (0, 0))) := hg
  have HG5 : Hid (4 < g) := hg5
  clear hz hc hrst hlt hlt' hw hcc u2 u3 u4 DO hk hx hg hg5
  go_enter Tryz.func14, Tryz.ntmps14
  go_wp2_with fail
  refine Calls.mono CC.out ?_
  rintro e W1 ⟨rfl, b1⟩
  have HB1 : Hid (Below w.heap.size w W1) := b1
  have HG1 : Hid (W1.heap[g]? = some (.cells (fgA 0 (.slice none 0 0) false ⟨#[]⟩ 0 sm nm) 26 (0, 0))) := (b1.block g (Array.getElem?_eq_some_iff.1 HG.out).1).trans HG.out
  have T1 : Tk W1 := HK.out.below b1 HK.out.sz
  have HX1 : Hid (Tx W1) := HX.out.below b1 HX.out.sz
  obtain ⟨q0, -, -, -, -⟩ := fgA_cells HG1.out
  have f0 : W1.frozen? ⟨g, 0, none⟩ = false := frozen_of_row _ _ _ _ _ HG1.out
  have w1 := T1.w1
  have w2 := T1.w2
  have T0 : Touch g w W1 := Touch.of_below b1
  have HT : Hid (Touch g w (W1.setCell ⟨g, 0, none⟩ (.int .i64 2))) := T0.setCell _
  have TX2 : Touch g W1 (W1.setCell ⟨g, 0, none⟩ (.int .i64 2)) := (Touch.refl g W1).setCell _
  have CR : Hid _ := HRF.out (W1.setCell ⟨g, 0, none⟩ (.int .i64 2)) (HX1.out.touch TX2 HG5.out) ((set_fgA HG1.out).1 2)
  clear CC b1 T1 T0 TX2 HRF
  go_wp2_with fail
  refine Calls.mono CR.out ?_
  rintro e W3 ⟨rfl, v, h3, hl3, t3⟩
  have HE : Hid (∃ v, W3.heap[g]? = some (.cells (fgA f.k v f.self f.out f.ix sm nm) 26 (0, 0)) ∧ W3.ownsRow w.heap.size 51 21 v (dd (srt f.L)).length (cells (dd (srt f.L))) ∧ Touch g w W3) := ⟨v, h3, own_down hl3 HT.out.size, HT.out.trans t3⟩
  clear CR h3 hl3 t3 HT q0 w1 w2
  go_wp2
  go_ret
  exact ⟨rfl, HE.out⟩
set_option maxRecDepth 100000 in
set_option maxHeartbeats 3200000 in
theorem hd_3 (f : Fg) (ok : Ok f) (hk1 : f.k = 3) (sm : List Nat) (nm : ByteArray) (g : Nat) (w : World) (hk : Tk w) (_hx : Tx w) (_hg5 : 4 < g) (hg : w.heap[g]? = some (.cells (fgA 0 (.slice none 0 0) false ⟨#[]⟩ 0 sm nm) 26 (0, 0))) :
    Calls Tryz.prog 14 #[.pointer (some ⟨g, 0, none⟩), .string (headT f)] w (HdP f sm nm g w) := by
  have hz := head_size ok
  obtain ⟨u1, u2, u3, u4⟩ := un_facts ok
  have hL : f.L = [] := u1 (by omega)
  have hsf : f.self = false := u2 (by omega)
  have hM : dd (srt f.L) = [] := by rw [hL]; exact dd_none
  have hR0 := head_rst f
  have htl : tlP f = [bl f.out] := by unfold tlP; rw [hsf, if_pos hk1]; rfl
  rw [hM, htl, List.map_nil, List.nil_append] at hR0
  obtain ⟨r', b', hc, hrst, -, -⟩ := cut_rst hR0 (kwV_nc f.k)
  obtain ⟨rfl, hbl⟩ := hrst.some _ _ rfl
  rw [fl_nil, List.append_nil] at hbl
  obtain rfl : r' = f.out := bl_inj hbl
  have hw : ofL (bl (kwV f.k)) = ⟨#[111, 117, 116, 112, 117, 116]⟩ := by rw [hk1]; rfl
  have CC : Hid _ := cut_any (headT f) (by omega) w
  have hcc : cutV (headT f).data.toList = _ := hc
  rw [hcc, hw] at CC
  have HEQ : Hid (∀ W, W.heap[g]? = some (.cells (fgA 3 (.slice none 0 0) false f.out 0 sm nm) 26 (0, 0)) → Touch g w W → ∃ v, W.heap[g]? = some (.cells (fgA f.k v f.self f.out f.ix sm nm) 26 (0, 0)) ∧ W.ownsRow w.heap.size 51 21 v (dd (srt f.L)).length (cells (dd (srt f.L))) ∧ Touch g w W) := fun W h t => ⟨.slice none 0 0, by rw [hk1, hsf, u4 (by omega)]; exact h, by rw [hM, cells_nil]; exact World.ownsRow_nil _ _ _ _, t⟩
  have HK : Hid (Tk w) := hk
  have HG : Hid (w.heap[g]? = some (.cells (fgA 0 (.slice none 0 0) false ⟨#[]⟩ 0 sm nm) 26 (0, 0))) := hg
  clear hz hc hrst hw hcc u1 u2 u3 u4 hk hg hL hsf hM hR0 htl hbl ok
  go_enter Tryz.func14, Tryz.ntmps14
  go_wp2_with fail
  refine Calls.mono CC.out ?_
  rintro e W1 ⟨rfl, b1⟩
  have HG1 : Hid (W1.heap[g]? = some (.cells (fgA 0 (.slice none 0 0) false ⟨#[]⟩ 0 sm nm) 26 (0, 0))) := (b1.block g (Array.getElem?_eq_some_iff.1 HG.out).1).trans HG.out
  have T1 : Tk W1 := HK.out.below b1 HK.out.sz
  obtain ⟨q0, -, -, -, -⟩ := fgA_cells HG1.out
  have f0 : W1.frozen? ⟨g, 0, none⟩ = false := frozen_of_row _ _ _ _ _ HG1.out
  have w1 := T1.w1
  have w2 := T1.w2
  have w3 := T1.w3
  have w4 := T1.w4
  have T0 : Hid (Touch g w W1) := Touch.of_below b1
  have HG2 : Hid ((W1.setCell ⟨g, 0, none⟩ (.int .i64 3)).heap[g]? = some (.cells (fgA 3 (.slice none 0 0) false ⟨#[]⟩ 0 sm nm) 26 (0, 0))) := (set_fgA HG1.out).1 3
  have T2 : Hid (Touch g w (W1.setCell ⟨g, 0, none⟩ (.int .i64 3))) := T0.out.setCell _
  obtain ⟨W2, hW2⟩ : ∃ W2, W1.setCell ⟨g, 0, none⟩ (.int .i64 3) = W2 := ⟨_, rfl⟩
  have HW2 : Hid _ := hW2
  rw [hW2] at HG2 T2
  clear CC b1 T1 hW2
  obtain ⟨-, -, -, q3, -⟩ := fgA_cells HG2.out
  have f3 : W2.frozen? ⟨g, 3, none⟩ = false := frozen_of_row _ _ _ _ _ HG2.out
  have HE : Hid _ := HEQ.out (W2.setCell ⟨g, 3, none⟩ (.string f.out)) ((set_fgA HG2.out).2.2.2.1 f.out) (T2.out.setCell _)
  have q3' : (W1.setCell ⟨g, 0, none⟩ (.int .i64 3)).cell? ⟨g, 3, none⟩ = some (.string ⟨#[]⟩) := by rw [HW2.out]; exact q3
  have f3' : (W1.setCell ⟨g, 0, none⟩ (.int .i64 3)).frozen? ⟨g, 3, none⟩ = false := by rw [HW2.out]; exact f3
  go_wp2
  rw [HW2.out]
  go_ret
  exact ⟨rfl, HE.out⟩
end Go.Proofs.YtffghlbgbfhfdaaGreatDoor

/- readHead, of a member. -/
namespace Go.Proofs.YtffghlbgbfhfdaaGreatDoor
open Go.RowKit Go.Shelf Go.Sort
set_option maxRecDepth 100000 in
set_option maxHeartbeats 3200000 in
theorem hd_4 (f : Fg) (ok : Ok f) (hk1 : f.k = 4) (sm : List Nat) (nm : ByteArray) (g : Nat) (w : World) (hk : Tk w) (_hx : Tx w) (_hg5 : 4 < g) (hg : w.heap[g]? = some (.cells (fgA 0 (.slice none 0 0) false ⟨#[]⟩ 0 sm nm) 26 (0, 0))) :
    Calls Tryz.prog 14 #[.pointer (some ⟨g, 0, none⟩), .string (headT f)] w (HdP f sm nm g w) := by
  have hz := head_size ok
  obtain ⟨N, hN⟩ : ∃ N, N = f.ix.toNat := ⟨_, rfl⟩
  have HN : Hid (N < 64 ∧ (N : Int) = f.ix) := (⟨by have h1 := ok.i0; have h2 := ok.i6; omega, by have h1 := ok.i0; omega⟩ : N < 64 ∧ (N : Int) = f.ix)
  obtain ⟨u1, u2, u3, u4⟩ := un_facts ok
  have hL : f.L = [] := u1 (by omega)
  have hsf : f.self = false := u2 (by omega)
  have hM : dd (srt f.L) = [] := by rw [hL]; exact dd_none
  have hR0 := head_rst f
  have htl : tlP f = [bl (itoaT N)] := by unfold tlP; rw [hsf, if_neg (show ¬ f.k = 3 by omega), if_pos hk1, ← hN]; rfl
  rw [hM, htl, List.map_nil, List.nil_append] at hR0
  obtain ⟨r', b', hc, hrst, -, -⟩ := cut_rst hR0 (kwV_nc f.k)
  obtain ⟨rfl, hbl⟩ := hrst.some _ _ rfl
  rw [fl_nil, List.append_nil] at hbl
  obtain rfl : r' = (itoaT N) := bl_inj hbl
  have hw : ofL (bl (kwV f.k)) = ⟨#[109, 101, 109, 98, 101, 114]⟩ := by rw [hk1]; rfl
  have CC : Hid _ := cut_any (headT f) (by omega) w
  have hcc : cutV (headT f).data.toList = _ := hc
  rw [hcc, hw] at CC
  have HEQ : Hid (∀ W, W.heap[g]? = some (.cells (fgA 4 (.slice none 0 0) false ⟨#[]⟩ (N : Int) sm nm) 26 (0, 0)) → Touch g w W → ∃ v, W.heap[g]? = some (.cells (fgA f.k v f.self f.out f.ix sm nm) 26 (0, 0)) ∧ W.ownsRow w.heap.size 51 21 v (dd (srt f.L)).length (cells (dd (srt f.L))) ∧ Touch g w W) := fun W h t => ⟨.slice none 0 0, by rw [hk1, hsf, u3 (by omega), ← HN.out.2]; exact h, by rw [hM, cells_nil]; exact World.ownsRow_nil _ _ _ _, t⟩
  have HK : Hid (Tk w) := hk
  have HG : Hid (w.heap[g]? = some (.cells (fgA 0 (.slice none 0 0) false ⟨#[]⟩ 0 sm nm) 26 (0, 0))) := hg
  clear hz hc hrst hw hcc u1 u2 u3 u4 hk hg hL hsf hM hR0 htl hbl ok
  go_enter Tryz.func14, Tryz.ntmps14
  go_wp2_with fail
  refine Calls.mono CC.out ?_
  rintro e W1 ⟨rfl, b1⟩
  have HG1 : Hid (W1.heap[g]? = some (.cells (fgA 0 (.slice none 0 0) false ⟨#[]⟩ 0 sm nm) 26 (0, 0))) := (b1.block g (Array.getElem?_eq_some_iff.1 HG.out).1).trans HG.out
  have T1 : Tk W1 := HK.out.below b1 HK.out.sz
  obtain ⟨q0, -, -, -, -⟩ := fgA_cells HG1.out
  have f0 : W1.frozen? ⟨g, 0, none⟩ = false := frozen_of_row _ _ _ _ _ HG1.out
  have w1 := T1.w1
  have w2 := T1.w2
  have w3 := T1.w3
  have w4 := T1.w4
  have T0 : Hid (Touch g w W1) := Touch.of_below b1
  have HG2 : Hid ((W1.setCell ⟨g, 0, none⟩ (.int .i64 4)).heap[g]? = some (.cells (fgA 4 (.slice none 0 0) false ⟨#[]⟩ 0 sm nm) 26 (0, 0))) := (set_fgA HG1.out).1 4
  have T2 : Hid (Touch g w (W1.setCell ⟨g, 0, none⟩ (.int .i64 4))) := T0.out.setCell _
  obtain ⟨W2, hW2⟩ : ∃ W2, W1.setCell ⟨g, 0, none⟩ (.int .i64 4) = W2 := ⟨_, rfl⟩
  have HW2 : Hid _ := hW2
  rw [hW2] at HG2 T2
  clear CC b1 T1 hW2
  have CA : Hid _ := atoi_any N HN.out.1 W2
  go_wp2_with fail
  rw [HW2.out, ← hN]
  refine Calls.mono CA.out ?_
  rintro e W3 ⟨rfl, b3⟩
  have HG3 : Hid (W3.heap[g]? = some (.cells (fgA 4 (.slice none 0 0) false ⟨#[]⟩ 0 sm nm) 26 (0, 0))) := (b3.block g (Array.getElem?_eq_some_iff.1 HG2.out).1).trans HG2.out
  have T3 : Hid (Touch g w W3) := tch_below T2.out b3
  obtain ⟨-, -, -, -, q4⟩ := fgA_cells HG3.out
  have f4 : W3.frozen? ⟨g, 4, none⟩ = false := frozen_of_row _ _ _ _ _ HG3.out
  have HE : Hid _ := HEQ.out (W3.setCell ⟨g, 4, none⟩ (.int .i64 (N : Int))) ((set_fgA HG3.out).2.2.2.2 _) (T3.out.setCell _)
  clear CA b3 HG2 T2 HW2 hN
  go_wp2
  go_ret
  exact ⟨rfl, HE.out⟩
theorem hd_any (f : Fg) (ok : Ok f) (sm : List Nat) (nm : ByteArray) (g : Nat) (w : World) (hk : Tk w) (hx : Tx w) (hg5 : 4 < g) (hg : w.heap[g]? = some (.cells (fgA 0 (.slice none 0 0) false ⟨#[]⟩ 0 sm nm) 26 (0, 0))) :
    Calls Tryz.prog 14 #[.pointer (some ⟨g, 0, none⟩), .string (headT f)] w (HdP f sm nm g w) := by
  have h1 := ok.k1
  have h4 := ok.k4
  have hc : f.k = 1 ∨ f.k = 2 ∨ f.k = 3 ∨ f.k = 4 := by omega
  rcases hc with h | h | h | h
  · exact hd_1 f ok h sm nm g w hk hx hg5 hg
  · exact hd_2 f ok h sm nm g w hk hx hg5 hg
  · exact hd_3 f ok h sm nm g w hk hx hg5 hg
  · exact hd_4 f ok h sm nm g w hk hx hg5 hg
end Go.Proofs.YtffghlbgbfhfdaaGreatDoor
