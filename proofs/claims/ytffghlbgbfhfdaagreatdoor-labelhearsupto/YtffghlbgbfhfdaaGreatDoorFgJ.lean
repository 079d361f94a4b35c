/- Several texts in one: Fg1, Fg2, Fg3. -/
import Derived.Test.YtffghlbgbfhfdaaGreatDoorSrJ
import Derived.Test.YtffghlbgbfhfdaaGreatDoorLo2
/- A finger as it lies; the table of kinds; what may be said. -/
namespace Go.Proofs.YtffghlbgbfhfdaaGreatDoor
open Go.RowKit Go.Shelf Go.Sort
/-- A finger. -/
structure Fg where
  k : Int
  v : Value
  L : List Lb
  self : Bool
  out : ByteArray
  ix : Int
  sm : List Nat
  nm : ByteArray
  hl : sm.length = 32
  hb : Byt sm
  hk : -9223372036854775808 ≤ k ∧ k ≤ 9223372036854775807
  hix : -9223372036854775808 ≤ ix ∧ ix ≤ 9223372036854775807
  hn : L.length ≤ 4398046511104
  hL : ∀ x ∈ L, Byt x.h
def fing (f : Fg) : Array Value := #[.int .i64 f.k, f.v, .bool f.self, .string f.out, .int .i64 f.ix] ++ bs f.sm ++ #[.string f.nm]
theorem fing_size (f : Fg) : (fing f).size = 38 := by simp [fing, bs_size, f.hl]
theorem fing_name (f : Fg) : (fing f)[37]? = some (.string f.nm) := by
  unfold fing
  rw [Array.getElem?_append_right (by simp [bs_size, f.hl])]
  simp [bs_size, f.hl]
theorem fing_head (f : Fg) (k : Nat) (hk : k < 5) : (fing f)[k]? = (#[.int .i64 f.k, f.v, .bool f.self, .string f.out, .int .i64 f.ix] : Array Value)[k]? := by
  unfold fing
  rw [Array.append_assoc, Array.getElem?_append_left (by simpa using hk)]
theorem fing_sum (f : Fg) (j : Nat) (hj : j < f.sm.length) : (fing f)[5 + j]? = some (.int .u8 ((f.sm.getD j 0 : Nat) : Int)) := by
  unfold fing
  rw [Array.getElem?_append_left (by simp [bs_size]; omega), Array.getElem?_append_right (by simp)]
  simp only [List.size_toArray, List.length_cons, List.length_nil, Nat.add_sub_cancel_left]
  exact bs_get _ _ hj
theorem fing_cells {f : Fg} {g : Nat} {W : World} (h : W.heap[g]? = some (.cells (fing f) 26 (0, 0))) : W.cell? ⟨g, 0, none⟩ = some (.int .i64 f.k) ∧ W.cell? ⟨g, 1, none⟩ = some f.v ∧ W.cell? ⟨g, 2, none⟩ = some (.bool f.self) ∧ W.cell? ⟨g, 3, none⟩ = some (.string f.out) ∧ W.cell? ⟨g, 4, none⟩ = some (.int .i64 f.ix) ∧ W.cell? ⟨g, 37, none⟩ = some (.string f.nm) :=
  ⟨(cell_of_row W g 0 _ _ _ h).trans (fing_head f 0 (by omega)), (cell_of_row W g 1 _ _ _ h).trans (fing_head f 1 (by omega)), (cell_of_row W g 2 _ _ _ h).trans (fing_head f 2 (by omega)), (cell_of_row W g 3 _ _ _ h).trans (fing_head f 3 (by omega)), (cell_of_row W g 4 _ _ _ h).trans (fing_head f 4 (by omega)), (cell_of_row W g 37 _ _ _ h).trans (fing_name f)⟩
set_option maxRecDepth 100000 in
theorem sizeF : (Tryz.prog.info? 26).map (·.size) = some 38 := by kernel_rfl
set_option maxRecDepth 100000 in
theorem underF : Tryz.prog.underlying 26 = some (.struct (Tryz.prog.fieldsOf 26)) := by kernel_rfl
theorem toFl (v : Value) : Instr.loadAt 26 v = loadR 26 v := rfl
theorem run_ldF (w : World) (g : Nat) (f : Fg) (hg : w.heap[g]? = some (.cells (fing f) 26 (0, 0))) : (loadR 26 (.pointer (some ⟨g, 0, none⟩))).run Tryz.prog w = .ok (.agg (fing f)) w := by
  unfold loadR
  simp only [Instr.loadAt, Instr.sureAddr, Sem.run_bind, Sem.run_pure, Result.andThen_ok, run_loadVar_row w g 26 26 (fing f) (0, 0) _ hg underF rfl (by rw [sizeF, fing_size f])]
/-- The words of the kinds, and what each uses. -/
def kwT : ByteArray := ⟨#[116, 101, 120, 116]⟩
def kwS : ByteArray := ⟨#[115, 111, 117, 114, 99, 101]⟩
def kwO : ByteArray := ⟨#[111, 117, 116, 112, 117, 116]⟩
def kwM : ByteArray := ⟨#[109, 101, 109, 98, 101, 114]⟩
structure Tk (w : World) : Prop where
  sz : 0 < w.heap.size
  w1 : w.cell? ⟨0, 2, none⟩ = some (.string ⟨#[116, 101, 120, 116]⟩)
  u1 : w.cell? ⟨0, 3, none⟩ = some (.int .i64 1)
  w2 : w.cell? ⟨0, 4, none⟩ = some (.string ⟨#[115, 111, 117, 114, 99, 101]⟩)
  u2 : w.cell? ⟨0, 5, none⟩ = some (.int .i64 3)
  w3 : w.cell? ⟨0, 6, none⟩ = some (.string ⟨#[111, 117, 116, 112, 117, 116]⟩)
  u3 : w.cell? ⟨0, 7, none⟩ = some (.int .i64 4)
  w4 : w.cell? ⟨0, 8, none⟩ = some (.string ⟨#[109, 101, 109, 98, 101, 114]⟩)
  u4 : w.cell? ⟨0, 9, none⟩ = some (.int .i64 8)
theorem Tk.keep {w w' : World} (h : Tk w) (hs : w.heap.size ≤ w'.heap.size) (hb : w'.heap[0]? = w.heap[0]?) : Tk w' :=
  ⟨Nat.lt_of_lt_of_le h.sz hs, (World.cell?_of_block (w := w) hb).trans h.w1, (World.cell?_of_block (w := w) hb).trans h.u1, (World.cell?_of_block (w := w) hb).trans h.w2, (World.cell?_of_block (w := w) hb).trans h.u2, (World.cell?_of_block (w := w) hb).trans h.w3, (World.cell?_of_block (w := w) hb).trans h.u3, (World.cell?_of_block (w := w) hb).trans h.w4, (World.cell?_of_block (w := w) hb).trans h.u4⟩
theorem Tk.below {w w' : World} {B : Nat} (h : Tk w) (hb : Below B w w') (hB : 0 < B) : Tk w' := h.keep hb.size (hb.block _ hB)
/-- Has it what its kind does not use? -/
def unV (f : Fg) : Bool :=
  (decide (f.k ≠ 1 ∧ f.k ≠ 2) && decide (0 < f.L.length)) || (decide (f.k ≠ 2) && f.self) || (decide (f.k ≠ 3) && decide (0 < f.out.size)) || (decide (f.k ≠ 4) && decide (f.ix ≠ 0))
/-- The first name that may not be. -/
def badN : List Lb → Nat
  | [] => 0
  | x :: r => if okN x.s = 0 then badN r else okN x.s
def refV (L : List Lb) : Nat := if 256 < L.length then 1 else badN L
/-- Why it may not be said. -/
def chkV (f : Fg) : Nat :=
  if ¬ (1 ≤ f.k ∧ f.k ≤ 4) then 23 else if unV f = true then 31 else if okN f.nm ≠ 0 then okN f.nm else if f.k = 3 ∧ okN f.out ≠ 0 then okN f.out else if ¬ (0 ≤ f.ix ∧ f.ix < 64) then 2 else refV f.L
end Go.Proofs.YtffghlbgbfhfdaaGreatDoor

/- hasUnused, checkRefs. -/
namespace Go.Proofs.YtffghlbgbfhfdaaGreatDoor
open Go.RowKit Go.Shelf Go.Sort
theorem cell_al (w : World) (b i : Nat) (h : b < w.heap.size) (X : Obj) : (w.alloc X).cell? ⟨b, i, none⟩ = w.cell? ⟨b, i, none⟩ := World.cell?_of_block (w := w) (heap_alloc_old w X (h := h))
theorem cell_al2 (w : World) (b i : Nat) (h : b < w.heap.size) (X Y : Obj) : ((w.alloc X).alloc Y).cell? ⟨b, i, none⟩ = w.cell? ⟨b, i, none⟩ := (cell_al _ b i (by simp; omega) Y).trans (cell_al w b i h X)
theorem out_nil (s : ByteArray) : decide (0 < s.size) = !decide (s.toList = []) := by
  rw [ByteArray.toList_eq]
  have h1 : s.size = s.data.toList.length := rfl
  cases h : s.data.toList with
  | nil => rw [h] at h1; simp [h1]
  | cons x r => rw [h] at h1; simp [h1]
theorem len_nil (n : Nat) : decide (0 < n) = !decide ((n : Int) = 0) := by
  by_cases h : n = 0
  · subst h; rfl
  · rw [decide_eq_true (by omega), decide_eq_false (by omega)]; rfl
theorem unV_eq (f : Fg) : unV f = ((decide (f.k ≠ 1 ∧ f.k ≠ 2) && !decide ((f.L.length : Int) = 0)) || (decide (f.k ≠ 2) && f.self) || (decide (f.k ≠ 3) && !decide (f.out.toList = [])) || (decide (f.k ≠ 4) && decide (f.ix ≠ 0))) := by
  unfold unV
  rw [out_nil, len_nil]
set_option maxRecDepth 100000 in
set_option maxHeartbeats 1000000 in
theorem un_1 (f : Fg) (o : Option Addr) (c : Nat) (hv : f.v = .slice o f.L.length c) (hk1 : f.k = 1) (w : World) (hk : Tk w) :
    Calls Tryz.prog 33 #[.agg (fing f)] w fun e w' => e = .returned (.bool (unV f)) ∧ Below w.heap.size w w' := by
  have f0 : (fing f)[0]? = some (.int .i64 1) := by rw [← hk1]; exact fing_head f 0 (by omega)
  have f1 : (fing f)[1]? = some (.slice o f.L.length c) := by rw [← hv]; exact fing_head f 1 (by omega)
  have f2 : (fing f)[2]? = some (.bool f.self) := fing_head f 2 (by omega)
  have f3 : (fing f)[3]? = some (.string f.out) := fing_head f 3 (by omega)
  have f4 : (fing f)[4]? = some (.int .i64 f.ix) := fing_head f 4 (by omega)
  have k7 := fun X Y => (cell_al2 w 0 3 hk.sz X Y).trans hk.u1
  rw [unV_eq, hk1]
  clear hk
  go_enter Tryz.func33, Tryz.ntmps33
  go_wp2_with fail
  all_goals
    go_ret
    refine ⟨?_, ((Below.refl _ w).alloc (Nat.le_refl _) _).alloc (by simp) _⟩
    clear f0 f1 f2 f3 f4 k7 hk1 hv
    simp_all
set_option maxRecDepth 100000 in
set_option maxHeartbeats 1000000 in
theorem un_2 (f : Fg) (o : Option Addr) (c : Nat) (hv : f.v = .slice o f.L.length c) (hk1 : f.k = 2) (w : World) (hk : Tk w) :
    Calls Tryz.prog 33 #[.agg (fing f)] w fun e w' => e = .returned (.bool (unV f)) ∧ Below w.heap.size w w' := by
  have f0 : (fing f)[0]? = some (.int .i64 2) := by rw [← hk1]; exact fing_head f 0 (by omega)
  have f1 : (fing f)[1]? = some (.slice o f.L.length c) := by rw [← hv]; exact fing_head f 1 (by omega)
  have f2 : (fing f)[2]? = some (.bool f.self) := fing_head f 2 (by omega)
  have f3 : (fing f)[3]? = some (.string f.out) := fing_head f 3 (by omega)
  have f4 : (fing f)[4]? = some (.int .i64 f.ix) := fing_head f 4 (by omega)
  have k7 := fun X Y => (cell_al2 w 0 5 hk.sz X Y).trans hk.u2
  rw [unV_eq, hk1]
  clear hk
  go_enter Tryz.func33, Tryz.ntmps33
  go_wp2_with fail
  all_goals
    go_ret
    refine ⟨?_, ((Below.refl _ w).alloc (Nat.le_refl _) _).alloc (by simp) _⟩
    clear f0 f1 f2 f3 f4 k7 hk1 hv
    simp_all
set_option maxRecDepth 100000 in
set_option maxHeartbeats 1000000 in
theorem un_3 (f : Fg) (o : Option Addr) (c : Nat) (hv : f.v = .slice o f.L.length c) (hk1 : f.k = 3) (w : World) (hk : Tk w) :
    Calls Tryz.prog 33 #[.agg (fing f)] w fun e w' => e = .returned (.bool (unV f)) ∧ Below w.heap.size w w' := by
  have f0 : (fing f)[0]? = some (.int .i64 3) := by rw [← hk1]; exact fing_head f 0 (by omega)
  have f1 : (fing f)[1]? = some (.slice o f.L.length c) := by rw [← hv]; exact fing_head f 1 (by omega)
  have f2 : (fing f)[2]? = some (.bool f.self) := fing_head f 2 (by omega)
  have f3 : (fing f)[3]? = some (.string f.out) := fing_head f 3 (by omega)
  have f4 : (fing f)[4]? = some (.int .i64 f.ix) := fing_head f 4 (by omega)
  have k7 := fun X Y => (cell_al2 w 0 7 hk.sz X Y).trans hk.u3
  rw [unV_eq, hk1]
  clear hk
  go_enter Tryz.func33, Tryz.ntmps33
  go_wp2_with fail
  all_goals
    go_ret
    refine ⟨?_, ((Below.refl _ w).alloc (Nat.le_refl _) _).alloc (by simp) _⟩
    clear f0 f1 f2 f3 f4 k7 hk1 hv
    simp_all
set_option maxRecDepth 100000 in
set_option maxHeartbeats 1000000 in
theorem un_4 (f : Fg) (o : Option Addr) (c : Nat) (hv : f.v = .slice o f.L.length c) (hk1 : f.k = 4) (w : World) (hk : Tk w) :
    Calls Tryz.prog 33 #[.agg (fing f)] w fun e w' => e = .returned (.bool (unV f)) ∧ Below w.heap.size w w' := by
  have f0 : (fing f)[0]? = some (.int .i64 4) := by rw [← hk1]; exact fing_head f 0 (by omega)
  have f1 : (fing f)[1]? = some (.slice o f.L.length c) := by rw [← hv]; exact fing_head f 1 (by omega)
  have f2 : (fing f)[2]? = some (.bool f.self) := fing_head f 2 (by omega)
  have f3 : (fing f)[3]? = some (.string f.out) := fing_head f 3 (by omega)
  have f4 : (fing f)[4]? = some (.int .i64 f.ix) := fing_head f 4 (by omega)
  have k7 := fun X Y => (cell_al2 w 0 9 hk.sz X Y).trans hk.u4
  rw [unV_eq, hk1]
  clear hk
  go_enter Tryz.func33, Tryz.ntmps33
  go_wp2_with fail
  all_goals
    go_ret
    refine ⟨?_, ((Below.refl _ w).alloc (Nat.le_refl _) _).alloc (by simp) _⟩
    clear f0 f1 f2 f3 f4 k7 hk1 hv
    simp_all
end Go.Proofs.YtffghlbgbfhfdaaGreatDoor

/- checkRefs, checkFinger. -/
namespace Go.Proofs.YtffghlbgbfhfdaaGreatDoor
open Go.RowKit Go.Shelf Go.Sort
theorem Ls.at {v : Value} {L : List Lb} {w : World} (h : Ls v L w) (hn : 0 < L.length) : ∃ b off cap, v = .slice (some ⟨b, off, none⟩) L.length cap ∧ L.length ≤ cap ∧ cap ≤ maxLen ∧ b < w.heap.size ∧ Lr b off L w := by
  rcases h with ⟨rfl, _⟩ | h
  · simp at hn
  · exact h
theorem Ls.form2 {v : Value} {L : List Lb} {w : World} (h : Ls v L w) : ∃ o c, v = .slice o L.length c ∧ (0 < L.length → ∃ b off, o = some ⟨b, off, none⟩ ∧ b < w.heap.size ∧ Lr b off L w) := by
  obtain ⟨o, c, rfl, -, -⟩ := h.form
  refine ⟨o, c, rfl, fun hn => ?_⟩
  obtain ⟨b, off, cap, he, -, -, hb, hr⟩ := h.at hn
  simp only [Value.slice.injEq] at he
  exact ⟨b, off, he.1, hb, hr⟩
/-- A label laid down anew. -/
theorem layL (W : World) (k : List Nat) (t : ByteArray) (hk : k.length = 20) : ∃ W', (storeR 51 (.pointer (some ⟨W.heap.size, 0, none⟩)) (.agg (lab k t))).run Tryz.prog (W.alloc (.cells #[.int .u8 0, .int .u8 0, .int .u8 0, .int .u8 0, .int .u8 0, .int .u8 0, .int .u8 0, .int .u8 0, .int .u8 0, .int .u8 0, .int .u8 0, .int .u8 0, .int .u8 0, .int .u8 0, .int .u8 0, .int .u8 0, .int .u8 0, .int .u8 0, .int .u8 0, .int .u8 0, .string ⟨#[]⟩] 51)) = .ok () W' ∧ W'.heap[W.heap.size]? = some (.cells (lab k t) 51 (0, 0)) ∧ Below W.heap.size W W' := by
  have h := run_storeR25 (W.alloc (.cells none25 51)) W.heap.size z20 k ⟨#[]⟩ t (heap_alloc_new _ _) rfl hk
  exact ⟨_, h, setRow_heap _ _ _ _ _ _ (heap_alloc_new _ _), below_setRow ((Below.refl _ W).alloc (Nat.le_refl _) _) (Nat.le_refl _) _⟩
theorem badN_drop {L : List Lb} {k : Nat} {x : Lb} (h : L[k]? = some x) : badN (L.drop k) = if okN x.s = 0 then badN (L.drop (k + 1)) else okN x.s := by
  obtain ⟨h1, h2⟩ := List.getElem?_eq_some_iff.1 h
  rw [List.drop_eq_getElem_cons h1, h2, badN]
theorem check_n (s : ByteArray) (E : Nat) (hE : E = okN s) (W : World) : ∃ F : Nat, Calls Tryz.prog 34 #[.string s] W fun e w' => e = .returned (.tuple #[.int .i64 (E : Int), .int .i64 (F : Int)]) ∧ Below W.heap.size W w' :=
  ⟨(checkN s).2, by rw [hE]; exact check_any s W⟩
attribute [local go_sem ↓] to25s to25l
set_option maxRecDepth 100000 in
set_option maxHeartbeats 1000000 in
theorem refs_any (L : List Lb) (hn : L.length ≤ 4398046511104) (v : Value) (w : World) (hv : Ls v L w) :
    Calls Tryz.prog 35 #[v] w fun e w' => e = .returned (.int .i64 ((refV L : Nat) : Int)) ∧ Below w.heap.size w w' := by
  obtain ⟨o, c, rfl, hr⟩ := hv.form2
  obtain ⟨n, hn0⟩ : ∃ n, n = L.length := ⟨_, rfl⟩
  rw [← hn0] at hr hn ⊢
  have HN : Hid (n = L.length) := hn0
  have HR : Hid (0 < n → ∃ b off, o = some ⟨b, off, none⟩ ∧ b < w.heap.size ∧ Lr b off L w) := hr
  clear hv hr
  by_cases hbig : 256 < n
  · have hv : Hid (refV L = 1) := by show _ = _; unfold refV; rw [if_pos (by omega)]
    have h1 : (256 : Int) < (n : Int) := by omega
    clear hn0
    go_enter Tryz.func35, Tryz.ntmps35
    go_wp2_with fail
    go_ret
    exact ⟨by rw [hv.out]; rfl, Below.refl _ _⟩
  · have hv : Hid (refV L = badN L) := by show _ = _; unfold refV; rw [if_neg (by omega)]
    have h1 : ¬ ((256 : Int) < (n : Int)) := by omega
    clear hn0
    go_enter Tryz.func35, Tryz.ntmps35
    go_wp2_with fail
    go_loopw [12] (fun iv wr => ∃ k : Nat, iv = .int .i64 (k : Int) ∧ k ≤ n ∧ Hid (badN L = badN (L.drop k)) ∧ Hid (Below w.heap.size w wr)) (fun iv _ => n - (intOf iv).toNat)
    case atStart => exact ⟨0, rfl, by omega, by show _ = _; rw [List.drop_zero], Below.refl _ _⟩
    case round =>
      obtain ⟨k, rfl, hk, HB, HW⟩ := hrel
      by_cases hlt : k < n
      · have hlt' : (k : Int) < (n : Int) := by omega
        have hk0 : (0 : Int) ≤ (k : Int) := by omega
        obtain ⟨b, off, rfl, hbw, hr⟩ := HR.out (by omega)
        obtain ⟨x, hx⟩ : ∃ x, L[k]? = some x := ⟨_, List.getElem?_eq_getElem (by have := HN.out; omega)⟩
        have lx := run_ldx wr b _ x (fun j u hu => (World.cell?_of_block (w := w) (HW.out.block b hbw)).trans (hr k x hx j u hu))
        obtain ⟨W1, s1, r1, b1⟩ := layL wr x.h x.s x.hl
        have nm : W1.cell? ⟨wr.heap.size, 20, none⟩ = some (.string x.s) := by rw [cell_of_row _ _ _ _ _ _ r1, lab_name x.h x.s x.hl]
        obtain ⟨E, hE⟩ : ∃ E, E = okN x.s := ⟨_, rfl⟩
        obtain ⟨F, C⟩ := check_n x.s E hE W1
        have HC : Hid _ := C
        have HX : Hid (badN L = if E = 0 then badN (L.drop (k + 1)) else E) := by show _ = _; rw [HB.out, badN_drop hx, hE]
        have HW1 : Hid (Below w.heap.size w W1) := HW.out.trans (b1.mono HW.out.size)
        clear hx hr C r1 b1 hE HB
        go_wp2_with fail
        refine Calls.mono HC.out ?_
        rintro e W2 ⟨rfl, b2⟩
        have HW2 : Hid (Below w.heap.size w W2) := HW1.out.trans (b2.mono HW1.out.size)
        clear HC b2 nm s1 lx
        by_cases h0 : E = 0
        · have HB2 : Hid (badN L = badN (L.drop (k + 1))) := by show _ = _; rw [HX.out, if_pos h0]
          subst h0
          clear HX
          go_wp2
          exact ⟨⟨k + 1, by rfl, by omega, HB2, HW2⟩, by simp only [intOf]; omega⟩
        · have HB2 : Hid (badN L = E) := by show _ = _; rw [HX.out, if_neg h0]
          have h0' : ¬ ((E : Int) = 0) := by omega
          clear HX
          go_wp2
          go_ret
          exact ⟨by rw [hv.out, HB2.out]; rfl, HW2.out⟩
      · have hlt' : ¬ ((k : Int) < (n : Int)) := by omega
        have HB2 : Hid (badN L = 0) := by show _ = _; rw [HB.out, List.drop_eq_nil_of_le (by have := HN.out; omega)]; rfl
        go_wp2
        go_ret
        exact ⟨by rw [hv.out, HB2.out]; rfl, HW.out⟩
end Go.Proofs.YtffghlbgbfhfdaaGreatDoor
