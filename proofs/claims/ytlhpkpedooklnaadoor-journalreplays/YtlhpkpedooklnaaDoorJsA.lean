/- JournalReplays: the document's bytes: laid, sum, copied. -/
import Derived.Test.YtlhpkpedooklnaaDoorJrZd
import Derived.Test.YtlhpkpedooklnaaDoorJrE
import Derived.Deep.WholeRow
import Derived.Deep.OwnRows
import Derived.Laws.CopyRow
import Derived.Laws.IdiomStrings
namespace Go.Proofs.YtlhpkpedooklnaaDoor
open Go.RowKit
open JM
theorem below_cell {W W' : World} (hb : Below W.heap.size W W') {a : Addr} {v : Value} (h : W.cell? a = some v) : W'.cell? a = some v := (World.cell?_of_block (w := W) (a := a) (hb.block a.block (World.block_lt_of_cell? W a h))).trans h
/-- A number in so many bytes. -/
def leb : Nat → Nat → List Nat
  | 0, _ => []
  | k + 1, n => n % 256 :: leb k (n / 256)
theorem leb_len : ∀ k n, (leb k n).length = k
  | 0, _ => rfl
  | k + 1, n => by simp [leb, leb_len k]
theorem leb_byt : ∀ k n, Byt (leb k n)
  | 0, _ => fun x h => by cases h
  | k + 1, n => fun x h => by
    rcases List.mem_cons.1 h with h | h
    · subst h; exact Nat.mod_lt _ (by decide)
    · exact leb_byt k _ x h
theorem le_leb : ∀ k n, n < 256 ^ k → le (leb k n) = n
  | 0, n, h => by simp at h; simp [leb, le, h]
  | k + 1, n, h => by
    rw [leb, le, le_leb k (n / 256) (by rw [Nat.pow_succ] at h; exact Nat.div_lt_of_lt_mul (by rw [Nat.mul_comm]; exact h))]
    omega
theorem leb_snoc : ∀ k n, leb (k + 1) n = leb k n ++ [n / 256 ^ k % 256]
  | 0, n => by simp [leb]
  | k + 1, n => by
    rw [leb, leb_snoc k (n / 256), leb]
    simp [Nat.div_div_eq_div_mul, Nat.pow_succ, Nat.mul_comm]
/-- One byte more. -/
theorem Ob.add {B : Nat} {w : World} {v : Value} {l : List Nat} (h : Ob B w v l) (hB : B ≤ w.heap.size) (x : Nat) (hx : x < 256) (hk : l.length < 100000000) :
    ∃ a c w', (apB 22 #[v, .slice (some ⟨w.heap.size, 0, none⟩) 1 1]).run Tryd.prog (w.alloc (.cells #[.int .u8 (x : Int)] 5)) = .ok (.slice a (l.length + 1) c) w' ∧ Ob B w' (.slice a (l.length + 1) c) (l ++ [x]) ∧ Gr B 5 w w' := by
  have hA : (w.alloc (.cells #[.int .u8 (x : Int)] 5)).ownsRow B 5 1 v l.length (bs l) := own_keep h.1 (fun k c _ hc => heap_alloc_old _ _ (h := (Array.getElem?_eq_some_iff.1 hc).1))
  obtain ⟨v', w', hr, ho, hg, -⟩ := run_apB1 (w.alloc (.cells #[.int .u8 (x : Int)] 5)) B l.length v (bs l) [x] ⟨w.heap.size, 0, none⟩ 1 hA (fun j u hu => by
    match j, hu with
    | 0, hu =>
      injection hu with hu
      subst hu
      exact (cell_of_row _ _ _ _ _ _ (heap_alloc_new _ _)).trans rfl) (by unfold LIM; simp; omega) (by simp; omega)
  obtain ⟨a, c, rfl⟩ := own_sl ho
  have hG := gr_of rfl h.1 hg
  refine ⟨a, c, w', hr, ⟨?_, fun y hy => ?_⟩, hG⟩
  · rw [List.length_append, show bs (l ++ [x]) = bs l ++ bs [x] by simp [bs]]
    exact ho
  · rcases List.mem_append.1 hy with q | q
    · exact h.2 y q
    · rw [List.mem_singleton.1 q]; exact hx
theorem Ob.bl {B : Nat} {w : World} {v : Value} {l : List Nat} (h : Ob B w v l) : Bl w v l := by
  obtain ⟨⟨h1, h2 | ⟨g, cap, cur, rfl, h3, h4, h5, h6, h7, h8⟩⟩, hb⟩ := h
  · obtain rfl : l = [] := List.length_eq_zero_iff.1 h2.2
    exact ⟨none, 0, h2.1, Nat.le_refl _, by unfold maxLen; omega, hb, fun j u hu => by simp [bs] at hu⟩
  · refine ⟨some ⟨g, 0, none⟩, cap, rfl, h5, h6, hb, fun j u hu => ⟨g, 0, rfl, (Array.getElem?_eq_some_iff.1 h4).1, ?_⟩⟩
    rw [cell_of_row _ _ _ _ _ _ h4, Nat.zero_add]
    have hj : j < (bs l).length := (List.getElem?_eq_some_iff.1 hu).1
    rw [← h8] at hu
    rw [bs_len] at hj
    rw [List.getElem?_take, if_pos (by omega)] at hu
    simpa using hu
attribute [local go_sem ↓] toApB in
set_option maxRecDepth 100000 in
set_option maxHeartbeats 1600000 in
theorem laid_any (n k : Nat) (hn : n ≤ 4611686018427387904) (hk : k ≤ 8) (W : World) : Calls Tryd.prog 29 #[.int .i64 (n : Int), .int .i64 (k : Int)] W fun e w' => ∃ v, e = .returned v ∧ Ob W.heap.size w' v (leb k n) ∧ Below W.heap.size W w' := by
  go_enter Tryd.func29, Tryd.ntmps29
  go_wp2_with fail
  go_loopw [6, 0, 5] (fun iv nv ov wr => ∃ (i : Nat) (a : Option Addr) (c m : Nat), iv = .int .i64 (i : Int) ∧ nv = .int .i64 (m : Int) ∧ ov = .slice a i c ∧ i ≤ k ∧ m ≤ 4611686018427387904 ∧ Hid (m = n / 256 ^ i ∧ Ob W.heap.size wr ov (leb i n) ∧ Below W.heap.size W wr)) (fun iv _ _ _ => k - (intOf iv).toNat)
  case atStart => exact ⟨0, none, 0, n, rfl, rfl, rfl, by omega, hn, by simp, ⟨World.ownsRow_nil _ _ _ _, fun x h => by cases h⟩, Below.refl _ _⟩
  case round =>
    obtain ⟨i, a, c, m, rfl, rfl, rfl, hi, hm, HI⟩ := hrel
    by_cases hlt : i < k
    · have hlt2 : (i : Int) < (k : Int) := by omega
      obtain ⟨a3, c3, x3, hr, hl3, hG⟩ := HI.out.2.1.add HI.out.2.2.size (m % 256) (Nat.mod_lt _ (by decide)) (by rw [leb_len]; omega)
      rw [leb_len] at hr hl3
      rw [show ((m % 256 : Nat) : Int) = (m : Int) % 256 by omega] at hr
      have HB := mkHid (show Below W.heap.size W x3 from hG.below HI.out.2.2 (Nat.le_refl _))
      have HM := HI.out.1
      replace HM := mkHid HM
      replace hl3 := mkHid hl3
      clear hG
      go_wp2_with fail
      refine ⟨⟨i + 1, a3, c3, m / 256, by simp, by simp, rfl, by omega, by omega, ?_, ?_, HB.out⟩, by simp only [intOf]; omega⟩
      · rw [HM.out, Nat.div_div_eq_div_mul, Nat.pow_succ]
      · have := hl3.out
        rw [HM.out] at this
        rw [leb_snoc]
        exact this
    · have hlt2 : ¬ (i : Int) < (k : Int) := by omega
      have : i = k := by omega
      subst this
      go_wp2_with fail
      go_ret
      exact ⟨_, rfl, HI.out.2.1, HI.out.2.2⟩
def cpB (ty : Nat) (vs : Array Value) : Sem Value := Builtin.copy_ #[22, 22] ty vs
theorem toCpB (ty : Nat) (vs : Array Value) : Builtin.copy_ #[22, 22] ty vs = cpB ty vs := rfl
theorem run_cpN (W : World) (u : Value) (l : List Nat) (hl : Bl W u l) : (cpB 3 #[.slice (some ⟨W.heap.size, 0, none⟩) l.length l.length, u]).run Tryd.prog (W.alloc (.cells (madeCells #[.int .u8 0] l.length) 5)) = .ok (goInt l.length) (W.alloc (.cells (bs l).toArray 5)) := by
  have hms : (madeCells #[.int .u8 0] l.length).size = l.length := by simp [madeCells]
  obtain ⟨oa, cap, rfl, h1, h2, h3, h4⟩ := hl
  by_cases h0 : l.length = 0
  · have := run_copy_none (P := Tryd.prog) (W.alloc (.cells (madeCells #[.int .u8 0] l.length) 5)) 22 22 3 5 (some ⟨W.heap.size, 0, none⟩) oa l.length l.length l.length cap Tryd.underlying22 size5 (by rw [h0]; rfl)
    unfold cpB
    rw [this]
    obtain rfl : l = [] := List.length_eq_zero_iff.1 h0
    have e : madeCells #[Value.int .u8 0] ([] : List Nat).length = #[] := Array.size_eq_zero_iff.1 hms
    rw [e]
    rfl
  · obtain ⟨u0, hu0⟩ : ∃ u0, (bs l)[0]? = some u0 := ⟨_, List.getElem?_eq_getElem (by rw [bs_len]; omega)⟩
    obtain ⟨g, o, rfl, -, -⟩ := h4 0 u0 hu0
    have := run_copy_row (P := Tryd.prog) (W.alloc (.cells (madeCells #[.int .u8 0] l.length) 5)) 22 22 3 5 W.heap.size 0 l.length l.length ⟨g, o, none⟩ l.length cap _ 5 (bs l) Tryd.underlying22 size5 (heap_alloc_new _ _) (by rw [bs_len]; exact (Nat.min_self _).symm) (fun j v hv => by
      obtain ⟨g', o', e1, e2, e3⟩ := h4 j v hv
      cases e1
      rw [Addr.add_mid]
      exact below_cell ((Below.refl _ W).alloc (Nat.le_refl _) _) e3) (by rw [bs_len, hms]; omega) (bs_one l)
    unfold cpB
    rw [this, World.setRow_alloc_new, bs_len, Nat.zero_add, List.take_zero, List.nil_append, List.drop_of_length_le (by rw [Array.length_toList, hms]; exact Nat.le_refl _), List.append_nil]
section
attribute [local go_sem ↓] toCpB
set_option maxRecDepth 100000 in
theorem copR_any (W : World) (u : Value) (l : List Nat) (hl : Bl W u l) (hlim : l.length ≤ LIM) : Calls Tryd.prog 31 #[u] W fun e w' => e = .returned (.slice (some ⟨W.heap.size, 0, none⟩) l.length l.length) ∧ w' = W.alloc (.cells (bs l).toArray 5) := by
  have hmk := run_make_row' (P := Tryd.prog) 22 5 (.int .u8 0) 1 Tryd.underlying22 info5 rfl .i64 .i64 l.length (by unfold LIM at hlim; omega) (by unfold LIM at hlim; omega)
  have hcp := run_cpN W u l hl
  obtain ⟨oa, cap, hu, -⟩ := hl
  subst hu
  clear hlim
  go_enter Tryd.func31, Tryd.ntmps31
  go_wp2
  go_ret
  exact ⟨rfl, rfl⟩
set_option maxRecDepth 100000 in
theorem copL_any (W : World) (u : Value) (l : List Nat) (hl : Bl W u l) (hlim : l.length ≤ LIM) : Calls Tryd.prog 9 #[u] W fun e w' => e = .returned (.slice (some ⟨W.heap.size, 0, none⟩) l.length l.length) ∧ w' = W.alloc (.cells (bs l).toArray 5) := by
  have hmk := run_make_row' (P := Tryd.prog) 22 5 (.int .u8 0) 1 Tryd.underlying22 info5 rfl .i64 .i64 l.length (by unfold LIM at hlim; omega) (by unfold LIM at hlim; omega)
  have hcp := run_cpN W u l hl
  obtain ⟨oa, cap, hu, -⟩ := hl
  subst hu
  clear hlim
  go_enter Tryd.func9, Tryd.ntmps9
  go_wp2
  go_ret
  exact ⟨rfl, rfl⟩
end
def mkS (l : List Nat) : ByteArray := ⟨(l.map UInt8.ofNat).toArray⟩
def cvS (v : Value) : Sem Value := convert 22 9 v
theorem toCvS (v : Value) : convert 22 9 v = cvS v := rfl
theorem cv_bl {W : World} {v : Value} {l : List Nat} (h : Bl W v l) : (cvS v).run Tryd.prog W = .ok (.string (mkS l)) W := by
  obtain ⟨oa, cap, rfl, h1, h2, h3, h4⟩ := h
  cases oa with
  | none =>
    have hl : l = [] := by
      cases l with
      | nil => rfl
      | cons a t =>
        obtain ⟨g, o, e, -⟩ := h4 0 (.int .u8 (a : Int)) (by simp [bs])
        cases e
    subst hl
    unfold cvS
    rw [List.length_nil, run_convert_bytes_string (P := Tryd.prog) W 22 9 5 none 0 cap Tryd.underlying22 Tryd.underlying5 Tryd.underlying9]
    rfl
  | some a =>
    have := run_convert_bytes_back (P := Tryd.prog) W 22 9 5 a cap (l.map UInt8.ofNat) Tryd.underlying22 Tryd.underlying5 Tryd.underlying9 (fun j hj => by
      have hj2 : j < l.length := by simpa using hj
      have hx : l[j] < 256 := h3 _ (List.getElem_mem hj2)
      obtain ⟨g, o, e, -, hc⟩ := h4 j (.int .u8 (l[j] : Int)) (by simp [bs, hj2])
      cases e
      rw [Addr.add_mid, hc]
      simp [Nat.mod_eq_of_lt hx])
    rw [List.length_map] at this
    exact this
theorem Ob.of_new (W : World) (l : List Nat) (hb : Byt l) (hl : l.length ≤ LIM) : Ob W.heap.size (W.alloc (.cells (bs l).toArray 5)) (.slice (some ⟨W.heap.size, 0, none⟩) l.length l.length) l :=
  ⟨⟨by rw [bs_len]; omega, .inr ⟨W.heap.size, l.length, _, rfl, Nat.le_refl _, heap_alloc_new _ _, Nat.le_refl _, by unfold LIM at hl; unfold maxLen; omega, by simp [bs_len], by simp [← bs_len]⟩⟩, hb⟩
end Go.Proofs.YtlhpkpedooklnaaDoor
