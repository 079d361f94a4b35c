import Derived.Test.YtkppejaigodgiaaFold
import Derived.Deep.RegionHeld3
import Derived.Deep.MidRow
namespace Go.Proofs.Ytkppejaigodgiaa
open Go.RowKit
def z32 : List Nat := List.replicate 32 0
theorem range_below {W w' : World} (hb : Below W.heap.size W w') {g : Nat} {cs : List Value} (h : W.rangeAt g 0 cs) : w'.rangeAt g 0 cs := by
  intro j v hj
  have hc := h j v hj
  rw [hb.cell (block_lt_of_cell hc)]
  exact hc
theorem range_row {W : World} {g t : Nat} {l : List Nat} (h : W.heap[g]? = some (.cells (bs l) t (0, 0))) : W.rangeAt g 0 (bs l).toList := by
  intro j v hj
  rw [cell_of_row W _ _ _ _ _ h]
  simpa using hj
def rowOf (w : World) (g : Nat) : Array Value := match w.heap[g]? with | some (.cells c _ _) => c | _ => #[]
theorem rowOf_eq {w : World} {g t : Nat} {c : Array Value} {fr : Nat × Nat} (h : w.heap[g]? = some (.cells c t fr)) : rowOf w g = c := by simp [rowOf, h]
theorem rowOf_drew (w : World) (g : Nat) : rowOf w.drew g = rowOf w g := rfl
theorem run_loadAt_rowOf {P : Program} {ty e n : Nat} (hu : P.underlying ty = some (.array n e)) (hi : (P.info? ty).map (·.size) = some n) (hn : 0 < n) (w : World) (g : Nat) (hs : (rowOf w g).size = n) :
    (Instr.loadAt ty (.pointer (some ⟨g, 0, none⟩))).run P w = .ok (.agg (rowOf w g)) w := by
  cases hh : w.heap[g]? with
  | none => simp [rowOf, hh] at hs; omega
  | some o =>
    cases o with
    | cells c t fr =>
      have hr : rowOf w g = c := rowOf_eq hh
      rw [hr] at hs ⊢
      simp only [Instr.loadAt, Instr.sureAddr, Sem.run_bind, Sem.run_pure, Result.andThen_ok, run_loadVar_row w g t ty c fr _ hh hu rfl (by rw [hi, hs])]
    | _ => simp [rowOf, hh] at hs; omega
theorem load23 (w : World) (g : Nat) (hs : (rowOf w g).size = 32) : (Instr.loadAt 23 (.pointer (some ⟨g, 0, none⟩))).run Try.prog w = .ok (.agg (rowOf w g)) w := run_loadAt_rowOf Try.underlying23 size23 (by omega) w g hs
theorem load25 (w : World) (g : Nat) (hs : (rowOf w g).size = 20) : (Instr.loadAt 25 (.pointer (some ⟨g, 0, none⟩))).run Try.prog w = .ok (.agg (rowOf w g)) w := run_loadAt_rowOf Try.underlying25 size25 (by omega) w g hs
/-- The load of a whole array, kept shut: the walk does not open it cell by cell. -/
def loadR (ty : Nat) (v : Value) : Sem Value := Instr.loadAt ty v
theorem to23 (v : Value) : Instr.loadAt 23 v = loadR 23 v := rfl
theorem to25 (v : Value) : Instr.loadAt 25 v = loadR 25 v := rfl
theorem run_loadR23 (w : World) (g : Nat) (hs : (rowOf w g).size = 32) : (loadR 23 (.pointer (some ⟨g, 0, none⟩))).run Try.prog w = .ok (.agg (rowOf w g)) w := load23 w g hs
theorem run_loadR25 (w : World) (g : Nat) (hs : (rowOf w g).size = 20) : (loadR 25 (.pointer (some ⟨g, 0, none⟩))).run Try.prog w = .ok (.agg (rowOf w g)) w := load25 w g hs
theorem eq25 (w : World) (a b : List Nat) (ha : a.length = 20) (hb : b.length = 20) : (Op.equalIn 10000 25 (.agg (bs a)) (.agg (bs b))).run Try.prog w = .ok (decide (a = b)) w :=
  run_equalIn_bs w 9998 Try.underlying25 Try.underlying5 size5 a b ha hb
attribute [local go_sem ↓] to23 to25
attribute [local go_sem] run_loadR23 run_loadR25 eq25
attribute [local go_sem] rowOf_drew

theorem below_setRow {B : Nat} {a w : World} (h : Below B a w) {g : Nat} (hg : B ≤ g) (cs : Array Value) : Below B a (w.setRow g cs) :=
  ⟨h.os, h.tape, h.output, by simpa using h.size, fun j hj => (setRow_other _ _ _ _ (by omega)).trans (h.block j hj)⟩
theorem alloc_at (w : World) (o : Obj) (n : Nat) (h : n = w.heap.size) : (w.alloc o).heap[n]? = some o := by
  subst h
  exact heap_alloc_new w o
set_option maxHeartbeats 2000000 in
theorem law_any (a b : List Nat) (hla : a.length = 32) (hba : Byt a) (hlb : b.length = 32) (hbb : Byt b) (w : World) :
    Calls Try.prog 3 #[.agg (bs a), .agg (bs b)] w fun e w' => e = .returned (.bool true) ∧ Below w.heap.size w w' := by
  obtain ⟨f, hf⟩ : ∃ f, f = fold32 a := ⟨_, rfl⟩
  have Hf : Hid (f = fold32 a) := hf
  have hfl : f.length = 20 := by rw [hf]; exact fold32_len a
  clear hf
  go_enter Try.func3, Try.ntmps3
  go_wp2_with (refine wpList_load_row rfl 23 _ rfl _ rfl 23 (bs a) (0, 0) _ (by exact heap_alloc2_old _ _ _) Try.underlying23 rfl (by rw [size23, bs_size, hla]) ?_)
  refine (fold_at a f Hf hla hba _).mono ?_
  rintro e w1 ⟨rfl, hb1⟩
  have hA : Hid (w1.heap[w.heap.size]? = some (.cells (bs a) 23 (0, 0))) := (hb1.block _ (by simp; omega)).trans (heap_alloc2_old _ _ _)
  have hB : Hid (w1.heap[w.heap.size + 1]? = some (.cells (bs b) 23 (0, 0))) := (hb1.block _ (by simp)).trans (heap_alloc2_new _ _ _)
  have hs1 : w.heap.size + 2 ≤ w1.heap.size := by have := hb1.size; simpa using this
  go_wp2_with (first
    | refine wpList_store_row rfl 25 _ _ rfl _ _ rfl rfl 25 _ (by exact heap_alloc_new _ _) (by rw [size25, bs_size, hfl]) (by rw [bs_size, hfl]; rfl) (bs_one _) ?_
    | refine wpList_load_row rfl 23 _ rfl _ rfl 23 (bs a) (0, 0) _ (by exact (setRow_other _ _ _ _ (by omega)).trans ((heap_alloc_old _ _ (h := by omega)).trans hA.out)) Try.underlying23 rfl (by rw [size23, bs_size, hla]) ?_
    | refine wpList_store_row rfl 23 _ _ rfl _ _ rfl rfl 23 _ (by exact alloc_at _ _ _ (by simp)) (by rw [size23, bs_size, hla]) (by rw [bs_size, hla]; rfl) (bs_one _) ?_)
  go_loopw [7] (fun i wr => ∃ (k : Nat) (m q : List Nat), k ≤ 32 ∧ i = .int .i64 k ∧ Hid (m = mixed a b k) ∧ Hid (q = fold32 m) ∧ Hid (wr.heap[w.heap.size]? = some (.cells (bs a) 23 (0, 0))) ∧ Hid (wr.heap[w.heap.size + 1]? = some (.cells (bs b) 23 (0, 0))) ∧
      Hid (wr.heap[w1.heap.size]? = some (.cells (bs q) 25 (0, 0))) ∧ Hid (wr.heap[w1.heap.size + 1]? = some (.cells (bs m) 23 (0, 0))) ∧ Below w.heap.size w wr ∧ w1.heap.size + 1 < wr.heap.size) (fun i _ => 32 - (intOf i).toNat)
  case atStart =>
    refine ⟨0, a, f, by omega, rfl, (mixed_zero a b).symm, Hf, ?_, ?_, ?_, ?_, ?_, ?_⟩
    · exact (setRow_other _ _ _ _ (by omega)).trans ((heap_alloc_old _ _ (h := by simp; omega)).trans ((setRow_other _ _ _ _ (by omega)).trans ((heap_alloc_old _ _ (h := by omega)).trans hA.out)))
    · exact (setRow_other _ _ _ _ (by omega)).trans ((heap_alloc_old _ _ (h := by simp; omega)).trans ((setRow_other _ _ _ _ (by omega)).trans ((heap_alloc_old _ _ (h := by omega)).trans hB.out)))
    · exact (setRow_other _ _ _ _ (by omega)).trans ((heap_alloc_old _ _ (h := by simp)).trans (setRow_heap _ _ _ _ _ _ (heap_alloc_new _ _)))
    · exact setRow_heap _ _ _ _ _ _ (alloc_at _ _ _ (by simp))
    · have e1 : Below w.heap.size w w1 := (((Below.refl _ w).alloc (Nat.le_refl _) (.cells (bs a) 23)).alloc (by simp) (.cells (bs b) 23)).trans (hb1.mono (by simp; omega))
      exact below_setRow ((below_setRow (e1.alloc (by omega) _) (by omega) _).alloc (by simp; omega) _) (by omega) _
    · simp
  case round =>
    obtain ⟨k, m, q, hk, rfl, Hm, Hq, HA, HB, HQ, HM, hbl, hsz⟩ := hrel
    by_cases hlt : k < 32
    · obtain ⟨x, hx⟩ : ∃ x, x = a.getD k 0 := ⟨_, rfl⟩
      obtain ⟨y, hy⟩ : ∃ y, y = b.getD k 0 := ⟨_, rfl⟩
      obtain ⟨z, hz⟩ : ∃ z, z = q.getD (k % 20) 0 := ⟨_, rfl⟩
      have hml : m.length = 32 := by rw [Hm.out, mixed_len _ _ _ (by omega) (by omega), hla]
      have hql : q.length = 20 := by rw [Hq.out, fold32_len]
      have ca : wr.cell? ⟨w.heap.size, k, none⟩ = some (.int .u8 (x : Int)) := by
        rw [cell_of_row wr _ _ _ _ _ HA.out, bs_get _ _ (by omega), hx]
      have cb : wr.cell? ⟨w.heap.size + 1, k, none⟩ = some (.int .u8 (y : Int)) := by
        rw [cell_of_row wr _ _ _ _ _ HB.out, bs_get _ _ (by omega), hy]
      have cq : wr.cell? ⟨w1.heap.size, k % 20, none⟩ = some (.int .u8 (z : Int)) := by
        rw [cell_of_row wr _ _ _ _ _ HQ.out, bs_get _ _ (by omega), hz]
      have fq := frozen_of_row wr _ (k % 20) _ _ HQ.out
      have hk0 : (0 : Int) ≤ (k : Int) := by omega
      have hk1 : (k : Int) < 32 := by omega
      have hm0 : (0 : Int) ≤ (k : Int) % 20 := by omega
      have hm1 : (k : Int) % 20 < 20 := by omega
      have HX : Hid (x = a.getD k 0) := hx
      have HY : Hid (y = b.getD k 0) := hy
      have HZ : Hid (z = q.getD (k % 20) 0) := hz
      clear hx hy hz hb1 hA hB
      go_wp2
      go_region
      obtain ⟨m2, hm2⟩ : ∃ m2, m2 = mixed a b (k + 1) := ⟨_, rfl⟩
      obtain ⟨q2, hq2⟩ : ∃ q2, q2 = fold32 m2 := ⟨_, rfl⟩
      have Hm2 : Hid (m2 = mixed a b (k + 1)) := hm2
      have Hq2 : Hid (q2 = fold32 m2) := hq2
      have hm2l : m2.length = 32 := by rw [hm2, mixed_len _ _ _ (by omega) (by omega), hla]
      have hq2l : q2.length = 20 := by rw [hq2, fold32_len]
      have hm2b : Byt m2 := by rw [hm2]; exact mixed_lt _ _ _ hba hbb
      have hx256 : x < 256 := by rw [HX.out]; exact getD_lt hba _
      have hy256 : y < 256 := by rw [HY.out]; exact getD_lt hbb _
      have hz256 : z < 256 := by rw [HZ.out, Hq.out, Hm.out]; exact getD_lt (fold32_lt _ (mixed_lt _ _ _ hba hbb)) _
      have hbits : bits BinOp.xor IntKind.u8 (bits BinOp.xor IntKind.u8 (z : Int) (x : Int)) (y : Int) = ((z ^^^ x ^^^ y : Nat) : Int) := by
        rw [u8_xor_nat z x hz256 hx256, u8_xor_nat _ y (xor_byte hz256 hx256) hy256]
      rw [hbits]
      have hnext : q.set (k % 20) (z ^^^ x ^^^ y) = q2 := by
        rw [hq2, hm2, HX.out, HY.out, HZ.out, Hq.out, Hm.out]
        exact fold_next a b k hla hlb hlt
      generalize hW : (wr.setCell ⟨w1.heap.size, k % 20, none⟩ (Value.int IntKind.u8 ((z ^^^ x ^^^ y : Nat) : Int))).drew = wx
      have HA2 : Hid (wx.heap[w.heap.size]? = some (.cells (bs a) 23 (0, 0))) := by rw [← hW]; exact (heap_setCell_other _ _ _ _ (by simp; omega)).trans HA.out
      have HB2 : Hid (wx.heap[w.heap.size + 1]? = some (.cells (bs b) 23 (0, 0))) := by rw [← hW]; exact (heap_setCell_other _ _ _ _ (by simp; omega)).trans HB.out
      have HM2 : Hid (wx.heap[w1.heap.size + 1]? = some (.cells (bs m) 23 (0, 0))) := by rw [← hW]; exact (heap_setCell_other _ _ _ _ (by simp)).trans HM.out
      have HQ2 : Hid (wx.heap[w1.heap.size]? = some (.cells (bs q2) 25 (0, 0))) := by rw [← hW, ← hnext, ← bs_set]; exact heap_setCell_same _ _ _ _ _ _ HQ.out
      have hbl2 : Below w.heap.size w wx := by rw [← hW]; exact (hbl.setCell (by simp; omega) _).drew
      have hsz2 : w1.heap.size + 1 < wx.heap.size := by rw [← hW]; simpa [World.setCell] using hsz
      have cb2 : wx.cell? ⟨w.heap.size + 1, k, none⟩ = some (.int .u8 (y : Int)) := by
        rw [cell_of_row wx _ _ _ _ _ HB2.out, bs_get _ _ (by omega), HY.out]
      have cm2 : wx.cell? ⟨w1.heap.size + 1, k, none⟩ = some (.int .u8 ((m.getD k 0 : Nat) : Int)) := by
        rw [cell_of_row wx _ _ _ _ _ HM2.out, bs_get _ _ (by omega)]
      have fm2 := frozen_of_row wx _ k _ _ HM2.out
      clear hW hnext hbits hm2 hq2 ca cb cq fq hbl hsz HA HB HQ HM
      go_wp2_with fail
      have HA3 : Hid ((wx.setCell ⟨w1.heap.size + 1, k, none⟩ (.int .u8 (y : Int))).heap[w.heap.size]? = some (.cells (bs a) 23 (0, 0))) := (heap_setCell_other _ _ _ _ (by simp; omega)).trans HA2.out
      have HB3 : Hid ((wx.setCell ⟨w1.heap.size + 1, k, none⟩ (.int .u8 (y : Int))).heap[w.heap.size + 1]? = some (.cells (bs b) 23 (0, 0))) := (heap_setCell_other _ _ _ _ (by simp; omega)).trans HB2.out
      have HM3 : Hid ((wx.setCell ⟨w1.heap.size + 1, k, none⟩ (.int .u8 (y : Int))).heap[w1.heap.size + 1]? = some (.cells (bs m2) 23 (0, 0))) := by
        show _ = _
        rw [heap_setCell_same _ _ _ _ _ _ HM2.out, bs_set, HY.out, Hm.out, mixed_succ a b k (by omega) (by omega), Hm2.out]
      have HQ3 : Hid ((wx.setCell ⟨w1.heap.size + 1, k, none⟩ (.int .u8 (y : Int))).heap[w1.heap.size]? = some (.cells (bs q2) 25 (0, 0))) := (heap_setCell_other _ _ _ _ (by simp)).trans HQ2.out
      have hbl3 : Below w.heap.size w (wx.setCell ⟨w1.heap.size + 1, k, none⟩ (.int .u8 (y : Int))) := hbl2.setCell (by simp; omega) _
      have hsz3 : w1.heap.size + 1 < (wx.setCell ⟨w1.heap.size + 1, k, none⟩ (.int .u8 (y : Int))).heap.size := by simpa [World.setCell] using hsz2
      revert HA3 HB3 HM3 HQ3 hbl3 hsz3
      generalize wx.setCell ⟨w1.heap.size + 1, k, none⟩ (.int .u8 (y : Int)) = wy
      intro HA3 HB3 HM3 HQ3 hbl3 hsz3
      clear HA2 HB2 HM2 HQ2 cb2 cm2 fm2 hbl2 hsz2
      have rM : rowOf wy (w1.heap.size + 1) = bs m2 := rowOf_eq HM3.out
      have rQ : rowOf wy w1.heap.size = bs q2 := rowOf_eq HQ3.out
      have sM : (bs m2).size = 32 := by rw [bs_size]; exact hm2l
      have sQ : (bs q2).size = 20 := by rw [bs_size]; exact hq2l
      go_region_with ((go_at_call 4; refine (fold_at m2 q2 Hq2 hm2l hm2b _).mono ?_; rintro e w' ⟨rfl, hb'⟩; have rQ' : rowOf w' w1.heap.size = bs q2 := rowOf_eq ((hb'.block _ (by simp; omega)).trans HQ3.out)))
      all_goals go_wp2
      all_goals go_roundw
      all_goals first | (simp [intOf]; omega) | skip
      all_goals
        have eq' : ∀ j, j ≤ w1.heap.size + 1 → w'.heap[j]? = wy.heap[j]? := fun j hj => hb'.block j (by simp; omega)
        refine ⟨k + 1, m2, q2, by omega, by go_num, Hm2, Hq2, (eq' _ (by omega)).trans HA3.out, (eq' _ (by omega)).trans HB3.out, (eq' _ (by omega)).trans HQ3.out, (eq' _ (by omega)).trans HM3.out, ?_, ?_⟩
        · exact hbl3.trans ((⟨hb'.os, hb'.tape, hb'.output, hb'.size, fun j hj => hb'.block j (by simp; omega)⟩ : Below w.heap.size wy w'))
        · have := hb'.size
          simp at this
          omega
    · clear hb1 hA hB HA HB HQ HM Hm Hq
      go_wp2_with fail
      have r8 : rowOf ((wr.alloc (.cells #[Value.int IntKind.u8 0, Value.int IntKind.u8 0, Value.int IntKind.u8 0, Value.int IntKind.u8 0, Value.int IntKind.u8 0, Value.int IntKind.u8 0, Value.int IntKind.u8 0, Value.int IntKind.u8 0, Value.int IntKind.u8 0, Value.int IntKind.u8 0, Value.int IntKind.u8 0, Value.int IntKind.u8 0, Value.int IntKind.u8 0, Value.int IntKind.u8 0, Value.int IntKind.u8 0, Value.int IntKind.u8 0, Value.int IntKind.u8 0, Value.int IntKind.u8 0, Value.int IntKind.u8 0, Value.int IntKind.u8 0, Value.int IntKind.u8 0, Value.int IntKind.u8 0, Value.int IntKind.u8 0, Value.int IntKind.u8 0, Value.int IntKind.u8 0, Value.int IntKind.u8 0, Value.int IntKind.u8 0, Value.int IntKind.u8 0, Value.int IntKind.u8 0, Value.int IntKind.u8 0, Value.int IntKind.u8 0, Value.int IntKind.u8 7] 23)).alloc (.cells #[Value.int IntKind.u8 0, Value.int IntKind.u8 0, Value.int IntKind.u8 0, Value.int IntKind.u8 0, Value.int IntKind.u8 0, Value.int IntKind.u8 0, Value.int IntKind.u8 0, Value.int IntKind.u8 0, Value.int IntKind.u8 0, Value.int IntKind.u8 0, Value.int IntKind.u8 0, Value.int IntKind.u8 7, Value.int IntKind.u8 0, Value.int IntKind.u8 0, Value.int IntKind.u8 0, Value.int IntKind.u8 0, Value.int IntKind.u8 0, Value.int IntKind.u8 0, Value.int IntKind.u8 0, Value.int IntKind.u8 0] 25)) wr.heap.size = bs one31 := rowOf_eq (heap_alloc2_old _ _ _)
      have r9 : rowOf ((wr.alloc (.cells #[Value.int IntKind.u8 0, Value.int IntKind.u8 0, Value.int IntKind.u8 0, Value.int IntKind.u8 0, Value.int IntKind.u8 0, Value.int IntKind.u8 0, Value.int IntKind.u8 0, Value.int IntKind.u8 0, Value.int IntKind.u8 0, Value.int IntKind.u8 0, Value.int IntKind.u8 0, Value.int IntKind.u8 0, Value.int IntKind.u8 0, Value.int IntKind.u8 0, Value.int IntKind.u8 0, Value.int IntKind.u8 0, Value.int IntKind.u8 0, Value.int IntKind.u8 0, Value.int IntKind.u8 0, Value.int IntKind.u8 0, Value.int IntKind.u8 0, Value.int IntKind.u8 0, Value.int IntKind.u8 0, Value.int IntKind.u8 0, Value.int IntKind.u8 0, Value.int IntKind.u8 0, Value.int IntKind.u8 0, Value.int IntKind.u8 0, Value.int IntKind.u8 0, Value.int IntKind.u8 0, Value.int IntKind.u8 0, Value.int IntKind.u8 7] 23)).alloc (.cells #[Value.int IntKind.u8 0, Value.int IntKind.u8 0, Value.int IntKind.u8 0, Value.int IntKind.u8 0, Value.int IntKind.u8 0, Value.int IntKind.u8 0, Value.int IntKind.u8 0, Value.int IntKind.u8 0, Value.int IntKind.u8 0, Value.int IntKind.u8 0, Value.int IntKind.u8 0, Value.int IntKind.u8 7, Value.int IntKind.u8 0, Value.int IntKind.u8 0, Value.int IntKind.u8 0, Value.int IntKind.u8 0, Value.int IntKind.u8 0, Value.int IntKind.u8 0, Value.int IntKind.u8 0, Value.int IntKind.u8 0] 25)) (wr.heap.size + 1) = bs seven11 := rowOf_eq (heap_alloc2_new _ _ _)
      have hblz : Below w.heap.size w ((wr.alloc (.cells #[Value.int IntKind.u8 0, Value.int IntKind.u8 0, Value.int IntKind.u8 0, Value.int IntKind.u8 0, Value.int IntKind.u8 0, Value.int IntKind.u8 0, Value.int IntKind.u8 0, Value.int IntKind.u8 0, Value.int IntKind.u8 0, Value.int IntKind.u8 0, Value.int IntKind.u8 0, Value.int IntKind.u8 0, Value.int IntKind.u8 0, Value.int IntKind.u8 0, Value.int IntKind.u8 0, Value.int IntKind.u8 0, Value.int IntKind.u8 0, Value.int IntKind.u8 0, Value.int IntKind.u8 0, Value.int IntKind.u8 0, Value.int IntKind.u8 0, Value.int IntKind.u8 0, Value.int IntKind.u8 0, Value.int IntKind.u8 0, Value.int IntKind.u8 0, Value.int IntKind.u8 0, Value.int IntKind.u8 0, Value.int IntKind.u8 0, Value.int IntKind.u8 0, Value.int IntKind.u8 0, Value.int IntKind.u8 0, Value.int IntKind.u8 7] 23)).alloc (.cells #[Value.int IntKind.u8 0, Value.int IntKind.u8 0, Value.int IntKind.u8 0, Value.int IntKind.u8 0, Value.int IntKind.u8 0, Value.int IntKind.u8 0, Value.int IntKind.u8 0, Value.int IntKind.u8 0, Value.int IntKind.u8 0, Value.int IntKind.u8 0, Value.int IntKind.u8 0, Value.int IntKind.u8 7, Value.int IntKind.u8 0, Value.int IntKind.u8 0, Value.int IntKind.u8 0, Value.int IntKind.u8 0, Value.int IntKind.u8 0, Value.int IntKind.u8 0, Value.int IntKind.u8 0, Value.int IntKind.u8 0] 25)) := (hbl.alloc (by omega) _).alloc (by simp; omega) _
      have hszz : wr.heap.size + 2 = ((wr.alloc (.cells #[Value.int IntKind.u8 0, Value.int IntKind.u8 0, Value.int IntKind.u8 0, Value.int IntKind.u8 0, Value.int IntKind.u8 0, Value.int IntKind.u8 0, Value.int IntKind.u8 0, Value.int IntKind.u8 0, Value.int IntKind.u8 0, Value.int IntKind.u8 0, Value.int IntKind.u8 0, Value.int IntKind.u8 0, Value.int IntKind.u8 0, Value.int IntKind.u8 0, Value.int IntKind.u8 0, Value.int IntKind.u8 0, Value.int IntKind.u8 0, Value.int IntKind.u8 0, Value.int IntKind.u8 0, Value.int IntKind.u8 0, Value.int IntKind.u8 0, Value.int IntKind.u8 0, Value.int IntKind.u8 0, Value.int IntKind.u8 0, Value.int IntKind.u8 0, Value.int IntKind.u8 0, Value.int IntKind.u8 0, Value.int IntKind.u8 0, Value.int IntKind.u8 0, Value.int IntKind.u8 0, Value.int IntKind.u8 0, Value.int IntKind.u8 7] 23)).alloc (.cells #[Value.int IntKind.u8 0, Value.int IntKind.u8 0, Value.int IntKind.u8 0, Value.int IntKind.u8 0, Value.int IntKind.u8 0, Value.int IntKind.u8 0, Value.int IntKind.u8 0, Value.int IntKind.u8 0, Value.int IntKind.u8 0, Value.int IntKind.u8 0, Value.int IntKind.u8 0, Value.int IntKind.u8 7, Value.int IntKind.u8 0, Value.int IntKind.u8 0, Value.int IntKind.u8 0, Value.int IntKind.u8 0, Value.int IntKind.u8 0, Value.int IntKind.u8 0, Value.int IntKind.u8 0, Value.int IntKind.u8 0] 25)).heap.size := by simp
      revert r8 r9 hblz hszz
      generalize (wr.alloc (.cells #[Value.int IntKind.u8 0, Value.int IntKind.u8 0, Value.int IntKind.u8 0, Value.int IntKind.u8 0, Value.int IntKind.u8 0, Value.int IntKind.u8 0, Value.int IntKind.u8 0, Value.int IntKind.u8 0, Value.int IntKind.u8 0, Value.int IntKind.u8 0, Value.int IntKind.u8 0, Value.int IntKind.u8 0, Value.int IntKind.u8 0, Value.int IntKind.u8 0, Value.int IntKind.u8 0, Value.int IntKind.u8 0, Value.int IntKind.u8 0, Value.int IntKind.u8 0, Value.int IntKind.u8 0, Value.int IntKind.u8 0, Value.int IntKind.u8 0, Value.int IntKind.u8 0, Value.int IntKind.u8 0, Value.int IntKind.u8 0, Value.int IntKind.u8 0, Value.int IntKind.u8 0, Value.int IntKind.u8 0, Value.int IntKind.u8 0, Value.int IntKind.u8 0, Value.int IntKind.u8 0, Value.int IntKind.u8 0, Value.int IntKind.u8 7] 23)).alloc (.cells #[Value.int IntKind.u8 0, Value.int IntKind.u8 0, Value.int IntKind.u8 0, Value.int IntKind.u8 0, Value.int IntKind.u8 0, Value.int IntKind.u8 0, Value.int IntKind.u8 0, Value.int IntKind.u8 0, Value.int IntKind.u8 0, Value.int IntKind.u8 0, Value.int IntKind.u8 0, Value.int IntKind.u8 7, Value.int IntKind.u8 0, Value.int IntKind.u8 0, Value.int IntKind.u8 0, Value.int IntKind.u8 0, Value.int IntKind.u8 0, Value.int IntKind.u8 0, Value.int IntKind.u8 0, Value.int IntKind.u8 0] 25) = wz
      intro r8 r9 hblz hszz0
      have hszz : wr.heap.size + 2 ≤ wz.heap.size := by omega
      clear hszz0
      have s8 : (bs one31).size = 32 := rfl
      have s9 : (bs seven11).size = 20 := rfl
      have l9 : seven11.length = 20 := rfl
      have eqz : ∀ w : World, Sem.run Try.prog (Op.equalIn 10000 25 (.agg (bs z20)) (.agg #[Value.int IntKind.u8 0, Value.int IntKind.u8 0, Value.int IntKind.u8 0, Value.int IntKind.u8 0, Value.int IntKind.u8 0, Value.int IntKind.u8 0, Value.int IntKind.u8 0, Value.int IntKind.u8 0, Value.int IntKind.u8 0, Value.int IntKind.u8 0, Value.int IntKind.u8 0, Value.int IntKind.u8 0, Value.int IntKind.u8 0, Value.int IntKind.u8 0, Value.int IntKind.u8 0, Value.int IntKind.u8 0, Value.int IntKind.u8 0, Value.int IntKind.u8 0, Value.int IntKind.u8 0, Value.int IntKind.u8 0])) w = .ok true w := fun w => (eq25 w z20 z20 rfl rfl).trans (by simp)
      have h1 : Hid (seven11 = fold32 one31) := fold_one.symm
      have h0 : Hid (z20 = fold32 z32) := fold_zero.symm
      have b1 : Byt one31 := by unfold Byt; decide
      have b0 : Byt z32 := by unfold Byt; decide
      go_region_with (first
        | (go_at_call_of 4 (bs one31); refine (fold_at one31 seven11 h1 rfl b1 _).mono ?_; rintro e w' ⟨rfl, hb'⟩; have r9' : rowOf w' (wr.heap.size + 1) = bs seven11 := (show rowOf w' _ = rowOf wz _ by unfold rowOf; rw [hb'.block _ (by simp; omega)]; rfl).trans r9)
        | (go_at_call 4; refine (fold_at z32 z20 h0 rfl b0 _).mono ?_; rintro e w'' ⟨rfl, hb''⟩))
      all_goals go_wp2
      all_goals go_ret
      all_goals
        have z1 : w.heap.size ≤ wz.heap.size := by have := hblz.size; omega
        have z2 : wz.heap.size ≤ w'.heap.size := hb'.size
        exact ⟨rfl, (hblz.drew.trans (hb'.mono z1)).trans (hb''.mono (by omega))⟩
end Go.Proofs.Ytkppejaigodgiaa
