/- Several texts in one: JuA, JuB, JuC, JuD, JuE. -/
import Derived.Test.YtfimaflglnemdaaDoorJqH
import Derived.Test.YtfimaflglnemdaaDoorJrZd
import Derived.Deep.WholeRow
import Derived.Deep.OwnRows
import Derived.Laws.CopyRow
/- The journal's rows: bytes laid behind bytes of one's own: lay.Number, lay.Half. -/
namespace Go.Proofs.YtfimaflglnemdaaDoor
open Go.RowKit
open JM
set_option maxRecDepth 20000
theorem lb_snoc : ∀ k n, lb (k + 1) n = lb k n ++ [n / 256 ^ k % 256]
  | 0, n => by simp [lb]
  | k + 1, n => by
    rw [lb, lb_snoc k (n / 256), lb]
    simp [Nat.div_div_eq_div_mul, Nat.pow_succ, Nat.mul_comm]
/-- What laying bytes behind a list of one's own leaves: all but the list's own block. -/
structure Ap (w w' : World) (v v' : Value) : Prop where
  os : w'.os = w.os
  tape : w'.tape = w.tape
  output : w'.output = w.output
  size : w.heap.size ≤ w'.heap.size
  blk : ∀ k : Nat, k < w.heap.size → v.ownBlock ≠ some k → w'.heap[k]? = w.heap[k]?
  own : v'.ownBlock = v.ownBlock ∨ ∃ k, v'.ownBlock = some k ∧ w.heap.size ≤ k
theorem Ap.refl (w : World) (v : Value) : Ap w w v v := ⟨rfl, rfl, rfl, Nat.le_refl _, fun _ _ _ => rfl, .inl rfl⟩
theorem Ap.trans {w w' w'' : World} {v v' v'' : Value} (h : Ap w w' v v') (h' : Ap w' w'' v' v'') : Ap w w'' v v'' := by
  refine ⟨h'.os.trans h.os, h'.tape.trans h.tape, h'.output.trans h.output, Nat.le_trans h.size h'.size, fun k hk hn => ?_, ?_⟩
  · refine (h'.blk k (Nat.lt_of_lt_of_le hk h.size) (fun e => ?_)).trans (h.blk k hk hn)
    rcases h.own with h2 | ⟨j, h2, h3⟩
    · exact hn (h2.symm.trans e)
    · rw [h2] at e; injection e with e; omega
  · rcases h'.own with h2 | ⟨j, h2, h3⟩
    · rcases h.own with h4 | ⟨i, h4, h5⟩
      · exact .inl (h2.trans h4)
      · exact .inr ⟨i, h2.trans h4, h5⟩
    · exact .inr ⟨j, h2, Nat.le_trans h.size h3⟩
theorem Ob.owner {B k : Nat} {w : World} {v : Value} {l : List Nat} (h : Ob B w v l) (hk : v.ownBlock = some k) : B ≤ k := by
  rcases h.1.2 with ⟨h1, _⟩ | ⟨g, cap, cur, h1, h2, _⟩
  · rw [h1] at hk; cases hk
  · rw [h1] at hk; simp [Value.ownBlock] at hk; omega
theorem Ap.below {B : Nat} {X w w' : World} {v v' : Value} {l : List Nat} (h : Ap w w' v v') (ho : Ob B w v l) (hX : Below B X w) (hB : B ≤ X.heap.size) : Below B X w' :=
  ⟨h.os.trans hX.os, h.tape.trans hX.tape, h.output.trans hX.output, Nat.le_trans hX.size h.size, fun k hk => (h.blk k (by have := hX.size; omega) (fun e => by have := ho.owner e; omega)).trans (hX.block k hk)⟩
/-- Bytes that are not the list's own stay. -/
theorem Ap.bl {w w' : World} {v v' u : Value} {b : List Nat} (h : Ap w w' v v') (hu : Bl w u b) (hn : b ≠ [] → ∀ k, u.ownBlock = some k → v.ownBlock ≠ some k) : Bl w' u b := by
  obtain ⟨oa, cap, rfl, h2, h3, h4, h5⟩ := hu
  refine ⟨oa, cap, rfl, h2, h3, h4, fun j x hx => ?_⟩
  obtain ⟨g, o, rfl, e2, e3⟩ := h5 j x hx
  exact ⟨g, o, rfl, Nat.lt_of_lt_of_le e2 h.size, (World.cell?_of_block (w := w) (a := ⟨g, o + j, none⟩) (h.blk g e2 (hn (fun e => by subst e; simp [bs] at hx) g rfl))).trans e3⟩
/-- One byte more. -/
theorem Ob.add {B : Nat} {w : World} {v : Value} {l : List Nat} (h : Ob B w v l) (hB : B ≤ w.heap.size) (x : Nat) (hx : x < 256) (hk : l.length < 100000000) :
    ∃ a c w', (apB 23 #[v, .slice (some ⟨w.heap.size, 0, none⟩) 1 1]).run Tryd.prog (w.alloc (.cells #[.int .u8 (x : Int)] 5)) = .ok (.slice a (l.length + 1) c) w' ∧ Ob B w' (.slice a (l.length + 1) c) (l ++ [x]) ∧ Ap w w' v (.slice a (l.length + 1) c) := by
  have hA : (w.alloc (.cells #[.int .u8 (x : Int)] 5)).ownsRow B 5 1 v l.length (bs l) := own_keep h.1 (fun k c _ hc => heap_alloc_old _ _ (h := (Array.getElem?_eq_some_iff.1 hc).1))
  obtain ⟨v', w', hr, ho, hg, hat⟩ := run_apB1 (w.alloc (.cells #[.int .u8 (x : Int)] 5)) B l.length v (bs l) [x] ⟨w.heap.size, 0, none⟩ 1 hA (fun j u hu => by
    match j, hu with
    | 0, hu =>
      injection hu with hu
      subst hu
      exact (cell_of_row _ _ _ _ _ _ (heap_alloc_new _ _)).trans rfl) (by unfold LIM; simp; omega) (by simp; omega)
  obtain ⟨a, c, rfl⟩ := own_sl ho
  refine ⟨a, c, w', hr, ⟨?_, fun y hy => ?_⟩, ⟨hg.os, hg.tape, hg.output, Nat.le_trans (by simp) hg.size, fun k hk hn => ?_, ?_⟩⟩
  · rw [List.length_append, show bs (l ++ [x]) = bs l ++ bs [x] by simp [bs]]
    exact ho
  · rcases List.mem_append.1 hy with q | q
    · exact h.2 y q
    · rw [List.mem_singleton.1 q]; exact hx
  · exact (hg.block k (by simp; omega) (fun e => hn e.symm)).trans (heap_alloc_old _ _ (h := hk))
  · rcases hat with q | q
    · exact .inl q
    · exact .inr ⟨_, q, by simp⟩
attribute [local go_sem ↓] toApB in
set_option maxRecDepth 100000 in
set_option maxHeartbeats 1600000 in
theorem number_any (n : Nat) {B : Nat} {v : Value} {l : List Nat} (W : World) (hv : Ob B W v l) (hB : B ≤ W.heap.size) (hl : l.length < 90000000) :
    Calls Tryd.prog 69 #[v, .int .i64 (n : Int)] W fun e w' => ∃ v', e = .returned v' ∧ Ob B w' v' (l ++ lb 8 n) ∧ Ap W w' v v' := by
  obtain ⟨a0, c0, rfl⟩ := hv.sl
  go_enter Tryd.func69, Tryd.ntmps69
  go_wp2_with fail
  go_loopw [6, 0] (fun iv ov wr => ∃ (i : Nat) (a : Option Addr) (c : Nat), iv = .int .i64 (i : Int) ∧ ov = .slice a (l.length + i) c ∧ i ≤ 8 ∧ Hid (Ob B wr ov (l ++ lb i n) ∧ Ap W wr (.slice a0 l.length c0) ov)) (fun iv _ _ => 8 - (intOf iv).toNat)
  case atStart => exact ⟨0, a0, c0, rfl, rfl, by omega, by simp only [lb, List.append_nil]; exact hv, Ap.refl _ _⟩
  case round =>
    obtain ⟨i, a, c, rfl, rfl, hi, HI⟩ := hrel
    by_cases hlt : i < 8
    · have hlt2 : (i : Int) < 8 := by omega
      obtain ⟨a3, c3, x3, hr, hl3, hG⟩ := HI.out.1.add (Nat.le_trans hB HI.out.2.size) (n / 256 ^ i % 256) (Nat.mod_lt _ (by decide)) (by simp [lb_len]; omega)
      rw [List.length_append, lb_len] at hr hl3 hG
      have e1 : (n : Int) / 2 ^ (8 * i) % 256 = ((n / 256 ^ i % 256 : Nat) : Int) := by
        have : (2 : Int) ^ (8 * i) = ((256 ^ i : Nat) : Int) := by
          rw [show (256 : Nat) = 2 ^ 8 from rfl, ← Nat.pow_mul, Int.natCast_pow]
          rfl
        rw [this]
        omega
      have e3 : ((n / 256 ^ i % 256 : Nat) : Int) = (n : Int) / 256 ^ i % 256 := by simp
      rw [e3] at hr e1
      have e2 : (8 * (i : Int)).toNat = 8 * i := by omega
      have HB := mkHid (HI.out.2.trans hG)
      replace hl3 := mkHid hl3
      clear hG
      go_wp2_with fail
      refine ⟨⟨i + 1, a3, c3, by simp, by simp [Nat.add_assoc], by omega, ?_, HB.out⟩, by simp only [intOf]; omega⟩
      rw [lb_snoc, ← List.append_assoc]
      exact hl3.out
    · have hlt2 : ¬ (i : Int) < 8 := by omega
      have : i = 8 := by omega
      subst this
      go_wp2_with fail
      go_ret
      exact ⟨_, rfl, HI.out.1, HI.out.2⟩
attribute [local go_sem ↓] toApB in
set_option maxRecDepth 100000 in
set_option maxHeartbeats 1600000 in
theorem half_any (n : Nat) {B : Nat} {v : Value} {l : List Nat} (W : World) (hv : Ob B W v l) (hB : B ≤ W.heap.size) (hl : l.length < 90000000) :
    Calls Tryd.prog 68 #[v, .int .u32 (n : Int)] W fun e w' => ∃ v', e = .returned v' ∧ Ob B w' v' (l ++ lb 4 n) ∧ Ap W w' v v' := by
  obtain ⟨a0, c0, rfl⟩ := hv.sl
  go_enter Tryd.func68, Tryd.ntmps68
  go_wp2_with fail
  go_loopw [6, 0] (fun iv ov wr => ∃ (i : Nat) (a : Option Addr) (c : Nat), iv = .int .i64 (i : Int) ∧ ov = .slice a (l.length + i) c ∧ i ≤ 4 ∧ Hid (Ob B wr ov (l ++ lb i n) ∧ Ap W wr (.slice a0 l.length c0) ov)) (fun iv _ _ => 4 - (intOf iv).toNat)
  case atStart => exact ⟨0, a0, c0, rfl, rfl, by omega, by simp only [lb, List.append_nil]; exact hv, Ap.refl _ _⟩
  case round =>
    obtain ⟨i, a, c, rfl, rfl, hi, HI⟩ := hrel
    by_cases hlt : i < 4
    · have hlt2 : (i : Int) < 4 := by omega
      obtain ⟨a3, c3, x3, hr, hl3, hG⟩ := HI.out.1.add (Nat.le_trans hB HI.out.2.size) (n / 256 ^ i % 256) (Nat.mod_lt _ (by decide)) (by simp [lb_len]; omega)
      rw [List.length_append, lb_len] at hr hl3 hG
      have e1 : (n : Int) / 2 ^ (8 * i) % 256 = ((n / 256 ^ i % 256 : Nat) : Int) := by
        have : (2 : Int) ^ (8 * i) = ((256 ^ i : Nat) : Int) := by
          rw [show (256 : Nat) = 2 ^ 8 from rfl, ← Nat.pow_mul, Int.natCast_pow]
          rfl
        rw [this]
        omega
      have e3 : ((n / 256 ^ i % 256 : Nat) : Int) = (n : Int) / 256 ^ i % 256 := by simp
      rw [e3] at hr e1
      have e2 : (8 * (i : Int)).toNat = 8 * i := by omega
      have HB := mkHid (HI.out.2.trans hG)
      replace hl3 := mkHid hl3
      clear hG
      go_wp2_with fail
      refine ⟨⟨i + 1, a3, c3, by simp, by simp [Nat.add_assoc], by omega, ?_, HB.out⟩, by simp only [intOf]; omega⟩
      rw [lb_snoc, ← List.append_assoc]
      exact hl3.out
    · have hlt2 : ¬ (i : Int) < 4 := by omega
      have : i = 4 := by omega
      subst this
      go_wp2_with fail
      go_ret
      exact ⟨_, rfl, HI.out.1, HI.out.2⟩
end Go.Proofs.YtfimaflglnemdaaDoor

/- The journal's rows: a record is laid down: layRecord. -/
namespace Go.Proofs.YtfimaflglnemdaaDoor
open Go.RowKit
open JM
set_option maxRecDepth 20000
theorem Ob.bl {B : Nat} {w : World} {v : Value} {l : List Nat} (h : Ob B w v l) : Bl w v l := by
  obtain ⟨⟨h1, h2 | ⟨g, cap, cur, rfl, h3, h4, h5, h6, h7, h8⟩⟩, hb⟩ := h
  · obtain rfl : l = [] := List.length_eq_zero_iff.1 h2.2
    exact ⟨none, 0, h2.1, Nat.le_refl _, by unfold maxLen; omega, hb, fun j u hu => by simp [bs] at hu⟩
  · refine ⟨some ⟨g, 0, none⟩, cap, rfl, h5, h6, hb, fun j u hu => ⟨g, 0, rfl, (Array.getElem?_eq_some_iff.1 h4).1, ?_⟩⟩
    rw [cell_of_row _ _ _ _ _ _ h4, Nat.zero_add]
    have hj : j < (bs l).length := (List.getElem?_eq_some_iff.1 hu).1
    rw [← h8] at hu
    rw [bs_len] at hj
    rw [List.getElem?_take, if_pos (by omega)] at hu
    simpa using hu
/-- Bytes behind bytes of one's own, wherever they lie. -/
theorem Ob.app {B : Nat} {w : World} {v u : Value} {l b : List Nat} (h : Ob B w v l) (hB : B ≤ w.heap.size) (hu : Bl w u b) (hk : l.length + b.length < 100000000) :
    ∃ a c w', (apB 23 #[v, u]).run Tryd.prog w = .ok (.slice a (l.length + b.length) c) w' ∧ Ob B w' (.slice a (l.length + b.length) c) (l ++ b) ∧ Ap w w' v (.slice a (l.length + b.length) c) := by
  obtain ⟨oa, cap, rfl, h2, h3, h4, h5⟩ := hu
  cases oa with
  | none =>
    have hb0 : b = [] := by
      cases b with
      | nil => rfl
      | cons x r => obtain ⟨g, o, e, _⟩ := h5 0 _ (by simp [bs]; rfl); cases e
    subst hb0
    obtain ⟨i0, hi0, hz0, hz1, hz2⟩ := info_parts info5
    obtain ⟨a, c, rfl⟩ := h.sl
    refine ⟨a, c, w, ?_, by simpa using h, Ap.refl _ _⟩
    have hle : l.length ≤ c := by
      rcases h.1.2 with ⟨e1, e2⟩ | ⟨g, cp, cur, e1, _, _, e2, _⟩
      · injection e1 with _ _ e1; omega
      · injection e1 with _ _ e1; omega
    unfold apB
    cases a <;> simp [Builtin.append_, run_underlying Tryd.underlying23, sizeOf, typeInfo, hi0, Builtin.lenOf, Builtin.firstCells, hle, storeCells]
  | some ad =>
    obtain ⟨v', w', hr, ho, hg, hat⟩ := run_apB1 w B l.length v (bs l) b ad cap h.1 (fun j x hx => by
      obtain ⟨g, o, e1, e2, e3⟩ := h5 j x hx
      cases e1
      rw [Addr.add_mid]
      exact e3) (by unfold LIM; omega) hB
    obtain ⟨a, c, rfl⟩ := own_sl ho
    refine ⟨a, c, w', hr, ⟨?_, fun y hy => ?_⟩, ⟨hg.os, hg.tape, hg.output, hg.size, fun k hk hn => hg.block k hk (fun e => hn e.symm), ?_⟩⟩
    · rw [List.length_append, show bs (l ++ b) = bs l ++ bs b by simp [bs]]
      exact ho
    · rcases List.mem_append.1 hy with q | q
      · exact h.2 y q
      · exact h4 y q
    · rcases hat with q | q
      · exact .inl q
      · exact .inr ⟨_, q, Nat.le_refl _⟩
/-- Two bytes more. -/
theorem Ob.add2 {B : Nat} {w : World} {v : Value} {l : List Nat} (h : Ob B w v l) (hB : B ≤ w.heap.size) (x y : Nat) (hx : x < 256) (hy : y < 256) (hk : l.length < 90000000) :
    ∃ a c w', (apB 23 #[v, .slice (some ⟨w.heap.size, 0, none⟩) 2 2]).run Tryd.prog (w.alloc (.cells #[.int .u8 (x : Int), .int .u8 (y : Int)] 5)) = .ok (.slice a (l.length + 2) c) w' ∧ Ob B w' (.slice a (l.length + 2) c) (l ++ [x, y]) ∧ Ap w w' v (.slice a (l.length + 2) c) := by
  have hA : Ob B (w.alloc (.cells #[.int .u8 (x : Int), .int .u8 (y : Int)] 5)) v l := h.keep (fun k c _ hc => heap_alloc_old _ _ (h := (Array.getElem?_eq_some_iff.1 hc).1))
  obtain ⟨a, c, w', hr, ho, hp⟩ := hA.app (u := .slice (some ⟨w.heap.size, 0, none⟩) 2 2) (b := [x, y]) (by simp; omega) ⟨_, 2, rfl, Nat.le_refl _, by unfold maxLen; omega, fun z hz => by
      simp at hz; omega, fun j u hu => ⟨w.heap.size, 0, rfl, by simp, by
        match j, hu with
        | 0, hu =>
          injection hu with hu
          subst hu
          exact (cell_of_row _ _ _ _ _ _ (heap_alloc_new _ _)).trans rfl
        | 1, hu =>
          injection hu with hu
          subst hu
          exact (cell_of_row _ _ _ _ _ _ (heap_alloc_new _ _)).trans rfl⟩⟩ (by simp; omega)
  refine ⟨a, c, w', hr, ho, ⟨hp.os, hp.tape, hp.output, Nat.le_trans (by simp) hp.size, fun k hk hn => (hp.blk k (by simp; omega) hn).trans (heap_alloc_old _ _ (h := hk)), ?_⟩⟩
  rcases hp.own with q | ⟨k, q1, q2⟩
  · exact .inl q
  · exact .inr ⟨k, q1, Nat.le_trans (by simp) q2⟩
end Go.Proofs.YtfimaflglnemdaaDoor

/- The journal's rows: a record is laid down: layRecord. -/
namespace Go.Proofs.YtfimaflglnemdaaDoor
open Go.RowKit
open JM
set_option maxRecDepth 20000
theorem Ap.tc {B : Nat} {w w' : World} {v v' : Value} {l : List Nat} (h : Ap w w' v v') (ho : Ob B w v l) (hB : B ≤ w.heap.size) (h0 : 0 < B) (ht : Tc w) : Tc w' :=
  ht.keep h.size (h.blk _ (by omega) (fun e => by have := ho.owner e; omega))
attribute [local go_sem ↓] toApB toSlB in
set_option maxRecDepth 100000 in
set_option maxHeartbeats 400000 in
theorem record_lay (k n : Nat) (hk : k < 256) {B : Nat} {v u : Value} {l b : List Nat} (W : World) (hv : Ob B W v l) (hB : B ≤ W.heap.size) (h0 : 0 < B) (ht : Tc W) (hu : Bl W u b) (hn : b ≠ [] → ∀ j, u.ownBlock = some j → v.ownBlock ≠ some j) (hl : l.length + b.length < 80000000) :
    Calls Tryd.prog 67 #[v, .int .u8 (k : Int), .int .i64 (n : Int), u] W fun e w' => ∃ v', e = .returned v' ∧ Ob B w' v' (l ++ recw k n b) ∧ Ap W w' v v' := by
  obtain ⟨a0, c0, rfl⟩ := hv.sl
  obtain ⟨au, cu, rfl⟩ := hu.form
  obtain ⟨a1, c1, w1, r1, o1, p1⟩ := hv.add2 hB 158 k (by decide) hk (by omega)
  rw [show ((158 : Nat) : Int) = 158 from rfl] at r1
  have C1 := number_any n w1 o1 (Nat.le_trans hB p1.size) (by simp; omega)
  have HF := mkHid (And.intro hv (And.intro ht (And.intro hu (And.intro hn p1))))
  have wl : IntKind.u32.wrap (b.length : Int) = (b.length : Int) := by rw [IntKind.wrap_u32]; omega
  clear o1 ht hu hn p1 hv
  go_enter Tryd.func67, Tryd.ntmps67
  go_wp2_with fail
  refine C1.mono ?_
  rintro e w2 ⟨v2, rfl, o2, p2⟩
  clear C1
  have P2 := mkHid (HF.out.2.2.2.2.trans p2)
  have C2 := half_any b.length w2 o2 (Nat.le_trans hB P2.out.size) (by simp [lb_len]; omega)
  clear p2
  go_wp2_with fail
  refine C2.mono ?_
  rintro e w3 ⟨v3, rfl, o3, p3⟩
  clear C2
  have P3 := mkHid (P2.out.trans p3)
  have e3 : l ++ [158, k] ++ lb 8 n ++ lb 4 b.length = l ++ fr14 k n b.length := by simp [fr14]
  rw [e3] at o3
  have hl4 : (l ++ fr14 k n b.length).length = l.length + 14 := by simp [fr14_len]
  obtain ⟨a3, c3, hv3⟩ := o3.sl
  rw [hl4] at hv3
  subst hv3
  have hb3 := o3.bl
  obtain ⟨o5, r5, s5⟩ := cut_l (l := l ++ fr14 k n b.length) (by rw [hl4]; exact hb3) l.length (by rw [hl4]; omega)
  rw [List.drop_left, hl4] at s5
  rw [hl4] at r5
  have e14 : l.length + 14 - l.length = 14 := by omega
  rw [e14] at r5 s5
  obtain ⟨c5, hc5⟩ : ∃ c5, c3 - l.length = c5 := ⟨_, rfl⟩
  rw [hc5] at r5 s5
  have T3 := P3.out.tc HF.out.1 hB h0 HF.out.2.1
  have C3 := crc_any (fr14 k n b.length) (fr14_byt hk) (by rw [fr14_len]; decide) _ w3 s5 T3
  have hc3 := crc_lt32 (fr14 k n b.length) (fr14_byt hk)
  have C4 := half_any (crcN (fr14 k n b.length)) w3 o3 (Nat.le_trans hB P3.out.size) (by rw [hl4]; omega)
  obtain ⟨x, hx⟩ : ∃ x, crcN (fr14 k n b.length) = x := ⟨_, rfl⟩
  rw [hx] at C3 C4 hc3
  replace hx := mkHid hx
  have HK := mkHid (And.intro hb3 (And.intro s5 T3))
  clear hb3 s5 T3 p3 e3 e14 hc5 hl4
  go_wp2_with fail
  refine C3.mono ?_
  rintro e w4 ⟨rfl, rfl⟩
  clear C3
  go_wp2_with fail
  refine C4.mono ?_
  rintro e w5 ⟨v5, rfl, o6, p6⟩
  clear C4
  have P5 := mkHid (P3.out.trans p6)
  have e5 : l ++ fr14 k n b.length ++ lb 4 x = l ++ fr18 k n b.length := by rw [← hx.out, List.append_assoc]; rfl
  rw [e5] at o6
  have hl6 : (l ++ fr18 k n b.length).length = l.length + 18 := by simp [fr18_len]
  have u5 := P5.out.bl HF.out.2.2.1 HF.out.2.2.2.1
  obtain ⟨a7, c7, w7, r7, o7, p7⟩ := o6.app (Nat.le_trans hB P5.out.size) u5 (by rw [hl6]; omega)
  have P7 := mkHid (P5.out.trans p7)
  have u7 := P7.out.bl HF.out.2.2.1 HF.out.2.2.2.1
  have C5 := crc_any b (by obtain ⟨-, -, -, -, -, h, -⟩ := u7.cells; exact h) (by omega) _ w7 u7 (P7.out.tc HF.out.1 hB h0 HF.out.2.1)
  have C6 := half_any (crcN b) w7 o7 (Nat.le_trans hB P7.out.size) (by rw [List.length_append, hl6]; omega)
  rw [hl6] at r7 o7 P7 C6
  obtain ⟨y, hy⟩ : ∃ y, crcN b = y := ⟨_, rfl⟩
  rw [hy] at C5 C6
  replace hy := mkHid hy
  replace o7 := mkHid o7
  clear u5 u7 p6 p7 e5 hl6 o6 HK o3 o2 P2 P3 P5 r5 r1
  go_wp2_with fail
  refine C5.mono ?_
  rintro e w8 ⟨rfl, rfl⟩
  clear C5
  go_wp2_with fail
  refine C6.mono ?_
  rintro e w9 ⟨v9, rfl, o9, p9⟩
  clear C6
  go_wp2_with fail
  go_ret
  refine ⟨_, rfl, ?_, P7.out.trans p9⟩
  have : l ++ recw k n b = l ++ fr18 k n b.length ++ b ++ lb 4 y := by rw [← hy.out]; simp [recw]
  rw [this]
  exact o9
end Go.Proofs.YtfimaflglnemdaaDoor

/- The journal's rows: bodies are laid down, and how many bytes they have: layBodies, bodiesSize, baseSize, batchSize. -/
namespace Go.Proofs.YtfimaflglnemdaaDoor
open Go.RowKit
open JM
set_option maxRecDepth 20000
theorem recsw_snoc (k : Nat) : ∀ (ls : List (List Nat)) (i : Nat) (b : List Nat), recsw k i (ls ++ [b]) = recsw k i ls ++ recw k (i + ls.length) b
  | [], i, b => by simp [recsw]
  | x :: r, i, b => by
    rw [List.cons_append, recsw, recsw_snoc k r, recsw, List.append_assoc, List.length_cons]
    congr 3
    omega
theorem sizes_snoc : ∀ (ls : List (List Nat)) (b : List Nat), sizes (ls ++ [b]) = sizes ls + (22 + b.length)
  | [], b => by simp [sizes]
  | x :: r, b => by rw [List.cons_append, sizes, sizes_snoc r, sizes]; omega
theorem sizes_take : ∀ (ls : List (List Nat)) (i : Nat), sizes (ls.take i) ≤ sizes ls
  | [], i => by simp
  | x :: r, 0 => by simp [sizes]
  | x :: r, i + 1 => by rw [List.take_succ_cons, sizes, sizes]; have := sizes_take r i; omega
theorem take_last {ls : List (List Nat)} {i : Nat} (h : i < ls.length) : ls.take (i + 1) = ls.take i ++ [ls[i]] := by simp
theorem len_le : ∀ ls : List (List Nat), ls.length ≤ sizes ls
  | [] => Nat.le_refl _
  | x :: r => by rw [List.length_cons, sizes]; have := len_le r; omega
theorem len_sizes {ls : List (List Nat)} {i : Nat} (h : i < ls.length) : sizes (ls.take i) + (22 + ls[i].length) ≤ sizes ls := by
  have := sizes_take ls (i + 1)
  rwa [take_last h, sizes_snoc] at this
/-- A list of bytes' lists, as it lies. -/
def Lr (W : World) (v : Value) (ls : List (List Nat)) : Prop :=
  ∃ oa cap, v = .slice oa ls.length cap ∧ ls.length ≤ cap ∧ cap ≤ maxLen ∧ ∀ (i : Nat) (h : i < ls.length), ∃ (g o : Nat) (x : Value), oa = some ⟨g, o, none⟩ ∧ W.cell? ⟨g, o + i, none⟩ = some x ∧ Bl W x ls[i]
theorem cell_below {W W' : World} (hb : Below W.heap.size W W') {a : Addr} {v : Value} (h : W.cell? a = some v) : W'.cell? a = some v := (World.cell?_of_block (w := W) (a := a) (hb.block a.block (World.block_lt_of_cell? W a h))).trans h
theorem Lr.below {W W' : World} {v : Value} {ls : List (List Nat)} (h : Lr W v ls) (hb : Below W.heap.size W W') : Lr W' v ls := by
  obtain ⟨oa, cap, h1, h2, h3, h4⟩ := h
  refine ⟨oa, cap, h1, h2, h3, fun i hi => ?_⟩
  obtain ⟨g, o, x, e1, e2, e3⟩ := h4 i hi
  exact ⟨g, o, x, e1, cell_below hb e2, e3.below hb⟩
theorem Lr.sl {W : World} {v : Value} {ls : List (List Nat)} (h : Lr W v ls) : ∃ oa cap, v = .slice oa ls.length cap := let ⟨oa, cap, h1, _⟩ := h; ⟨oa, cap, h1⟩
theorem own_get {w : World} {B e n i : Nat} {v x : Value} {vs : List Value} (h : w.ownsRow B e 1 v n vs) (hx : vs[i]? = some x) : ∃ g c, v = .slice (some ⟨g, 0, none⟩) n c ∧ w.cell? ⟨g, i, none⟩ = some x := by
  obtain ⟨h1, h2 | ⟨g, cap, cur, h2, h3, h4, h5, h6, h7, h8⟩⟩ := h
  · have := (List.getElem?_eq_some_iff.1 hx).1
    omega
  · refine ⟨g, cap, h2, ?_⟩
    rw [cell_of_row _ _ _ _ _ _ h4]
    have hi := (List.getElem?_eq_some_iff.1 hx).1
    rw [← h8, List.getElem?_take, if_pos (by omega)] at hx
    simpa using hx
theorem Ll.lr {B : Nat} {w : World} {v : Value} {ls : List (List Nat)} (h : Ll B w v ls) : Lr w v ls := by
  obtain ⟨vs, h1, h2⟩ := h
  obtain ⟨oa, cap, hv, hle, hm⟩ : ∃ oa cap, v = .slice oa ls.length cap ∧ ls.length ≤ cap ∧ cap ≤ maxLen := by
    obtain ⟨_, q | ⟨g, cap, cur, q1, _, _, q2, q3, _⟩⟩ := h1
    · exact ⟨none, 0, by rw [q.1, q.2], by omega, by unfold maxLen; omega⟩
    · exact ⟨_, cap, q1, q2, q3⟩
  refine ⟨oa, cap, hv, hle, hm, fun i hi => ?_⟩
  obtain ⟨x, h3, h4⟩ := h2 i ls[i] (List.getElem?_eq_getElem hi)
  obtain ⟨g, c, h5, h6⟩ := own_get h1 h3
  rw [hv] at h5
  injection h5 with h5 _ _
  exact ⟨g, 0, x, h5, by rw [Nat.zero_add]; exact h6, h4.bl⟩
set_option maxRecDepth 100000 in
set_option maxHeartbeats 800000 in
theorem bodies_size {u : Value} {ls : List (List Nat)} (W : World) (hu : Lr W u ls) (hl : sizes ls < 1000000000000) :
    Calls Tryd.prog 65 #[u] W fun e w' => e = .returned (.int .i64 (sizes ls : Int)) ∧ w' = W := by
  obtain ⟨oa, cap, rfl⟩ := hu.sl
  have HU := mkHid hu
  clear hu
  go_enter Tryd.func65, Tryd.ntmps65
  go_wp2_with fail
  go_loopw [8, 3] (fun iv sv wr => ∃ i : Nat, iv = .int .i64 (i : Int) ∧ sv = .int .i64 (sizes (ls.take i) : Int) ∧ i ≤ ls.length ∧ wr = W) (fun iv _ _ => ls.length - (intOf iv).toNat)
  case atStart => exact ⟨0, rfl, by simp [sizes], Nat.zero_le _, rfl⟩
  case round =>
    obtain ⟨i, rfl, rfl, hi, rfl⟩ := hrel
    by_cases hlt : i < ls.length
    · have hlt2 : (i : Int) < (ls.length : Int) := by omega
      have hi0 : (0 : Int) ≤ (i : Int) := by omega
      have hn : ls.length < 1000000000000 := by have := len_le ls; omega
      obtain ⟨oa', cap', e0, -, -, h4⟩ := HU.out
      injection e0 with e0 el ec
      clear el
      subst e0 ec
      obtain ⟨g, o, x, rfl, c1, b1⟩ := h4 i hlt
      obtain ⟨ox, cx, rfl⟩ := b1.form
      have hs := len_sizes hlt
      have e9 : sizes (ls.take (i + 1)) = sizes (ls.take i) + (22 + ls[i].length) := by rw [take_last hlt, sizes_snoc]
      clear h4 b1
      go_wp2_with fail
      refine ⟨⟨i + 1, by simp, by rw [e9]; simp, by omega, trivial⟩, by simp only [intOf]; omega⟩
    · have hlt2 : ¬ (i : Int) < (ls.length : Int) := by omega
      have : i = ls.length := by omega
      subst this
      rw [List.take_length]
      go_wp2_with fail
      go_ret
      exact ⟨rfl, rfl⟩
set_option maxRecDepth 100000 in
theorem base_size {u : Value} {ls : List (List Nat)} (W : World) (hu : Lr W u ls) (hl : sizes ls < 1000000000000) :
    Calls Tryd.prog 51 #[u] W fun e w' => e = .returned (.int .i64 ((52 + sizes ls : Nat) : Int)) ∧ w' = W := by
  have C := bodies_size W hu hl
  go_enter Tryd.func51, Tryd.ntmps51
  go_wp2_with fail
  refine C.mono ?_
  rintro e w ⟨rfl, rfl⟩
  go_wp2_with fail
  go_ret
  refine ⟨?_, rfl⟩
  rw [show ((52 + sizes ls : Nat) : Int) = 30 + (sizes ls : Int) + 22 by omega]
  rfl
set_option maxRecDepth 100000 in
theorem batch_size {u : Value} {ls : List (List Nat)} (W : World) (hu : Lr W u ls) (hl : sizes ls < 1000000000000) :
    Calls Tryd.prog 46 #[u] W fun e w' => e = .returned (.int .i64 ((26 + sizes ls : Nat) : Int)) ∧ w' = W := by
  have C := bodies_size W hu hl
  go_enter Tryd.func46, Tryd.ntmps46
  go_wp2_with fail
  refine C.mono ?_
  rintro e w ⟨rfl, rfl⟩
  go_wp2_with fail
  go_ret
  refine ⟨?_, rfl⟩
  rw [show ((26 + sizes ls : Nat) : Int) = (sizes ls : Int) + 22 + 4 by omega]
  rfl
theorem Bl.own {W : World} {v : Value} {l : List Nat} (h : Bl W v l) (h0 : l ≠ []) {k : Nat} (hk : v.ownBlock = some k) : k < W.heap.size := by
  obtain ⟨oa, cap, rfl, h2, h3, h4, h5⟩ := h
  cases l with
  | nil => exact absurd rfl h0
  | cons x r =>
    obtain ⟨g, o, rfl, e2, _⟩ := h5 0 (.int .u8 (x : Int)) rfl
    simp [Value.ownBlock] at hk
    omega
set_option maxRecDepth 100000 in
set_option maxHeartbeats 800000 in
theorem bodies_lay (k : Nat) (hk : k < 256) {B : Nat} {v u : Value} {l : List Nat} {ls : List (List Nat)} (W0 W : World) (hv : Ob B W v l) (hB : B ≤ W.heap.size) (h0 : 0 < B) (ht : Tc W) (hu : Lr W0 u ls) (hW : W0.heap.size ≤ B) (hag : Below W0.heap.size W0 W) (hl : l.length + sizes ls < 80000000) :
    Calls Tryd.prog 66 #[v, .int .u8 (k : Int), u] W fun e w' => ∃ v', e = .returned v' ∧ Ob B w' v' (l ++ recsw k 0 ls) ∧ Ap W w' v v' := by
  obtain ⟨a0, c0, rfl⟩ := hv.sl
  obtain ⟨oa, cap, rfl⟩ := hu.sl
  have HU := mkHid (And.intro hu (And.intro hv (And.intro ht hag)))
  clear hu hv ht hag
  go_enter Tryd.func66, Tryd.ntmps66
  go_wp2_with fail
  go_loopw [11, 0] (fun iv ov wr => ∃ i : Nat, iv = .int .i64 (i : Int) ∧ i ≤ ls.length ∧ Hid (Ob B wr ov (l ++ recsw k 0 (ls.take i)) ∧ Ap W wr (.slice a0 l.length c0) ov)) (fun iv _ _ => ls.length - (intOf iv).toNat)
  case atStart => exact ⟨0, rfl, Nat.zero_le _, by simpa [recsw] using HU.out.2.1, Ap.refl _ _⟩
  case round =>
    obtain ⟨i, rfl, hi, HI⟩ := hrel
    by_cases hlt : i < ls.length
    · have hlt2 : (i : Int) < (ls.length : Int) := by omega
      have hi0 : (0 : Int) ≤ (i : Int) := by omega
      have hn : ls.length < 1000000000000 := by have := len_le ls; omega
      have hs := len_sizes hlt
      have bel : Below W0.heap.size W0 wr := by
        have q := HI.out.2
        exact ⟨q.os.trans HU.out.2.2.2.os, q.tape.trans HU.out.2.2.2.tape, q.output.trans HU.out.2.2.2.output, Nat.le_trans HU.out.2.2.2.size q.size, fun j hj => (q.blk j (by omega) (fun e => by have := HU.out.2.1.owner e; omega)).trans (HU.out.2.2.2.block j hj)⟩
      obtain ⟨oa', cap', e0, -, -, h4⟩ := HU.out.1
      injection e0 with e0 el ec
      clear el
      subst e0 ec
      obtain ⟨g, o, x, rfl, c1, b1⟩ := h4 i hlt
      have c2 := cell_below bel c1
      have b2 := b1.below bel
      have hr : (l ++ recsw k 0 (ls.take i)).length = l.length + sizes (ls.take i) := by rw [List.length_append, recsw_len]
      have C := record_lay k i hk wr HI.out.1 (Nat.le_trans hB HI.out.2.size) h0 (HI.out.2.tc HU.out.2.1 hB h0 HU.out.2.2.1) b2 (fun hne j hj e => by have := b1.own hne hj; have := HI.out.1.owner e; omega) (by rw [hr]; omega)
      have e9 : l ++ recsw k 0 (ls.take (i + 1)) = l ++ recsw k 0 (ls.take i) ++ recw k i ls[i] := by
        have e8 : (ls.take i).length = i := by rw [List.length_take]; omega
        rw [take_last hlt, recsw_snoc, e8, Nat.zero_add, List.append_assoc]
      replace e9 := mkHid e9
      clear h4 b1 b2 c1 hs bel hr
      go_wp2_with fail
      refine C.mono ?_
      rintro e w' ⟨v', rfl, o9, p9⟩
      clear C
      go_wp2_with fail
      refine ⟨⟨i + 1, by simp, by omega, ?_, HI.out.2.trans p9⟩, by simp only [intOf]; omega⟩
      rw [e9.out]
      exact o9
    · have hlt2 : ¬ (i : Int) < (ls.length : Int) := by omega
      have : i = ls.length := by omega
      subst this
      go_wp2_with fail
      go_ret
      exact ⟨_, rfl, by have := HI.out.1; rwa [List.take_length] at this, HI.out.2⟩
end Go.Proofs.YtfimaflglnemdaaDoor

/- The journal's rows: a base and a batch are laid down: layBase, layBatch. -/
namespace Go.Proofs.YtfimaflglnemdaaDoor
open Go.RowKit
open JM
set_option maxRecDepth 20000
/-- A list of one's own, made with room. -/
theorem ob_make (w : World) (z : Nat) (hz : z ≤ 100000000) : ∃ w', (Instr.makeSlice 23 (.int .i64 0) (.int .i64 (z : Int))).run Tryd.prog w = .ok (.slice (some ⟨w.heap.size, 0, none⟩) 0 z) w' ∧ Ob w.heap.size w' (.slice (some ⟨w.heap.size, 0, none⟩) 0 z) [] ∧ Below w.heap.size w w' := by
  obtain ⟨i0, hi0, hz0, hz1, hz2⟩ := info_parts info5
  obtain ⟨w', h1, h2, h3⟩ := run_make_own (P := Tryd.prog) w w.heap.size 23 5 i0 _ 1 Tryd.underlying23 hi0 hz0 hz1 .i64 .i64 z (by rw [hz2]; omega) (by unfold maxLen; omega) (Nat.le_refl _)
  exact ⟨w', h1, ⟨h2, fun x h => by cases h⟩, ⟨h3.os, h3.tape, h3.output, h3.size, fun k hk => h3.block k hk (fun e => by cases e)⟩⟩
theorem bl_none (W : World) : Bl W (.slice none 0 0) [] := ⟨none, 0, rfl, Nat.le_refl _, by unfold maxLen; omega, (fun x h => by cases h), (fun j u h => by simp [bs] at h)⟩
theorem ob_lt {B g z n : Nat} {w : World} {l : List Nat} (h : Ob B w (.slice (some ⟨g, 0, none⟩) n z) l) : g < w.heap.size := by
  rcases h.1.2 with ⟨h1, _⟩ | ⟨g', cap, cur, h1, _, h2, _⟩
  · cases h1
  · injection h1 with h1 _ _
    injection h1 with h1
    injection h1 with h1 _ _
    subst h1
    exact (Array.getElem?_eq_some_iff.1 h2).1
theorem ob_none (B : Nat) (W : World) : Ob B W (.slice none 0 0) [] := ⟨World.ownsRow_nil _ _ _ _, fun x h => by cases h⟩
set_option maxRecDepth 100000 in
set_option maxHeartbeats 800000 in
theorem base_lay (gen first : Nat) {u : Value} {ls : List (List Nat)} (W : World) (hu : Lr W u ls) (ht : Tc W) (hl : sizes ls < 70000000) :
    Calls Tryd.prog 52 #[.int .i64 (gen : Int), .int .i64 (first : Int), u] W fun e w' => ∃ v', e = .returned v' ∧ Ob W.heap.size w' v' (basew gen first ls) ∧ Below W.heap.size W w' := by
  have C1 := base_size W hu (by omega)
  obtain ⟨oa, cap, rfl⟩ := hu.sl
  have HU := mkHid (And.intro hu ht)
  clear hu ht
  go_enter Tryd.func52, Tryd.ntmps52
  go_wp2_with fail
  refine C1.mono ?_
  rintro e w ⟨rfl, rfl⟩
  clear C1
  have hz : 52 + sizes ls ≤ 100000000 := by omega
  obtain ⟨z, hz2⟩ : ∃ z, 52 + sizes ls = z := ⟨_, rfl⟩
  rw [hz2] at hz
  rw [hz2]
  obtain ⟨w1, r1, o1, b1⟩ := ob_make w z hz
  have hT0 : 0 < w.heap.size := HU.out.2.sz
  have C2 := number_any first w1 (ob_none w1.heap.size w1) (Nat.le_refl _) (by simp)
  have H1 := mkHid (And.intro o1 b1)
  clear o1 b1
  go_wp2_with fail
  refine C2.mono ?_
  rintro e w2 ⟨v2, rfl, o2, p2⟩
  clear C2
  rw [List.nil_append] at o2
  have b2 : Below w1.heap.size w1 w2 := p2.below (ob_none w1.heap.size w1) (Below.refl _ _) (Nat.le_refl _)
  have hs1 : w.heap.size ≤ w1.heap.size := H1.out.2.size
  have b02 : Below w.heap.size w w2 := H1.out.2.trans (b2.mono hs1)
  have T2 : Tc w2 := HU.out.2.below b02 hT0
  have hlt := ob_lt H1.out.1
  have o12 : Ob w.heap.size w2 (.slice (some ⟨w.heap.size, 0, none⟩) 0 z) [] := H1.out.1.keep (fun k c _ hc => b2.block k (Array.getElem?_eq_some_iff.1 hc).1)
  have C3 := record_lay 1 gen (by decide) w2 o12 b02.size hT0 T2 o2.bl (fun _ j hj e => by
    have := o2.owner hj
    simp [Value.ownBlock] at e
    omega) (by simp [lb_len])
  have H2 := mkHid (And.intro o12 (And.intro b02 T2))
  clear o12 b02 T2 o2 p2 b2 H1 r1
  go_wp2_with fail
  refine C3.mono ?_
  rintro e w3 ⟨v3, rfl, o3, p3⟩
  clear C3
  rw [List.nil_append] at o3
  have b3 : Below w.heap.size w w3 := p3.below H2.out.1 H2.out.2.1 (Nat.le_refl _)
  have hl3 : (recw 1 gen (lb 8 first)).length = 30 := by rw [recw_len, lb_len]
  have C4 := bodies_lay 2 (by decide) w w3 o3 b3.size hT0 (HU.out.2.below b3 hT0) HU.out.1 (Nat.le_refl _) b3 (by rw [hl3]; omega)
  have H3 := mkHid (And.intro o3 b3)
  clear o3 b3 p3 H2
  go_wp2_with fail
  refine C4.mono ?_
  rintro e w4 ⟨v4, rfl, o4, p4⟩
  clear C4
  have b4 : Below w.heap.size w w4 := p4.below H3.out.1 H3.out.2 (Nat.le_refl _)
  have C5 := record_lay 3 ls.length (by decide) w4 o4 b4.size hT0 (HU.out.2.below b4 hT0) (bl_none w4) (fun h => absurd rfl h) (by rw [List.length_append, hl3, recsw_len]; simp; omega)
  have H4 := mkHid (And.intro o4 b4)
  clear o4 b4 p4 H3
  go_wp2_with fail
  refine C5.mono ?_
  rintro e w5 ⟨v5, rfl, o5, p5⟩
  clear C5
  have b5 : Below w.heap.size w w5 := p5.below H4.out.1 H4.out.2 (Nat.le_refl _)
  have H5 := mkHid (And.intro o5 b5)
  clear o5 b5 p5 H4
  go_wp2_with fail
  go_ret
  refine ⟨_, rfl, ?_, H5.out.2⟩
  have := H5.out.1
  rw [List.append_assoc] at this
  exact this
set_option maxRecDepth 100000 in
set_option maxHeartbeats 800000 in
theorem batch_lay (num : Nat) {u : Value} {ls : List (List Nat)} (W : World) (hu : Lr W u ls) (ht : Tc W) (hl : sizes ls < 70000000) :
    Calls Tryd.prog 47 #[.int .i64 (num : Int), u] W fun e w' => ∃ v', e = .returned v' ∧ Ob W.heap.size w' v' (batchw num ls) ∧ Below W.heap.size W w' := by
  have C1 := batch_size W hu (by omega)
  obtain ⟨oa, cap, rfl⟩ := hu.sl
  have wl : IntKind.u32.wrap (ls.length : Int) = (ls.length : Int) := by rw [IntKind.wrap_u32]; have := len_le ls; omega
  have HU := mkHid (And.intro hu ht)
  clear hu ht
  go_enter Tryd.func47, Tryd.ntmps47
  go_wp2_with fail
  refine C1.mono ?_
  rintro e w ⟨rfl, rfl⟩
  clear C1
  have hz : 26 + sizes ls ≤ 100000000 := by omega
  obtain ⟨z, hz2⟩ : ∃ z, 26 + sizes ls = z := ⟨_, rfl⟩
  rw [hz2] at hz
  rw [hz2]
  obtain ⟨w1, r1, o1, b1⟩ := ob_make w z hz
  have hT0 : 0 < w.heap.size := HU.out.2.sz
  have C4 := bodies_lay 4 (by decide) w w1 o1 b1.size hT0 (HU.out.2.below b1 hT0) HU.out.1 (Nat.le_refl _) b1 (by simp; omega)
  have H3 := mkHid (And.intro o1 b1)
  clear o1 b1
  go_wp2_with fail
  refine C4.mono ?_
  rintro e w4 ⟨v4, rfl, o4, p4⟩
  clear C4
  rw [List.nil_append] at o4
  have b4 : Below w.heap.size w w4 := p4.below H3.out.1 H3.out.2 (Nat.le_refl _)
  have C2 := half_any ls.length w4 (ob_none w4.heap.size w4) (Nat.le_refl _) (by simp)
  have H4 := mkHid (And.intro o4 b4)
  clear o4 b4 p4 H3
  go_wp2_with fail
  refine C2.mono ?_
  rintro e w2 ⟨v2, rfl, o2, p2⟩
  clear C2
  rw [List.nil_append] at o2
  have b2 : Below w4.heap.size w4 w2 := p2.below (ob_none w4.heap.size w4) (Below.refl _ _) (Nat.le_refl _)
  have hs1 : w.heap.size ≤ w4.heap.size := H4.out.2.size
  have b02 : Below w.heap.size w w2 := H4.out.2.trans (b2.mono hs1)
  have o42 : Ob w.heap.size w2 v4 (recsw 4 0 ls) := H4.out.1.keep (fun k c _ hc => b2.block k (Array.getElem?_eq_some_iff.1 hc).1)
  have C3 := record_lay 5 num (by decide) w2 o42 b02.size hT0 (HU.out.2.below b02 hT0) o2.bl (fun _ j hj e => by
    have := o2.owner hj
    obtain ⟨a, c, rfl⟩ := H4.out.1.sl
    cases a with
    | none => simp [Value.ownBlock] at e
    | some ad =>
      rcases H4.out.1.1.2 with ⟨h1, _⟩ | ⟨g', cap, cur, h1, _, h2, _⟩
      · cases h1
      · have := (Array.getElem?_eq_some_iff.1 h2).1
        rw [h1] at e
        simp [Value.ownBlock] at e
        omega) (by rw [recsw_len, lb_len]; omega)
  have H2 := mkHid (And.intro o42 b02)
  clear o42 b02 o2 p2 b2 r1
  go_wp2_with fail
  refine C3.mono ?_
  rintro e w5 ⟨v5, rfl, o5, p5⟩
  clear C3
  have b5 : Below w.heap.size w w5 := p5.below H2.out.1 H2.out.2 (Nat.le_refl _)
  have H5 := mkHid (And.intro o5 b5)
  clear o5 b5 p5 H2
  go_wp2_with fail
  go_ret
  exact ⟨_, rfl, H5.out.1, H5.out.2⟩
end Go.Proofs.YtfimaflglnemdaaDoor
