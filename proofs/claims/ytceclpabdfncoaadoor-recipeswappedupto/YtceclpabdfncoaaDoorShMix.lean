import Derived.Test.YtceclpabdfncoaaDoorShJa
namespace Go.Proofs.YtceclpabdfncoaaDoor.Sha
open Go.RowKit
theorem xor_ones (e : Nat) (he : e < 4294967296) : 4294967295 ^^^ e = 4294967295 - e := by
  have h := Nat.testBit_two_pow_sub_succ (x := e) (n := 32) he
  apply Nat.eq_of_testBit_eq
  intro i
  rw [Nat.testBit_xor, show (4294967295 : Nat) - e = 2 ^ 32 - (e + 1) by omega, h, show (4294967295 : Nat) = 2 ^ 32 - 1 from rfl, Nat.testBit_two_pow_sub_one]
  by_cases hi : i < 32
  · simp [hi]
  · have : e.testBit i = false := Nat.testBit_lt_two_pow (Nat.lt_of_lt_of_le he (Nat.pow_le_pow_right (by decide : 0 < 2) (by omega : 32 ≤ i)))
    simp [hi, this]
theorem max32 : IntKind.u32.max = ((4294967295 : Nat) : Int) := by decide
theorem ch_int (e f g : Nat) (he : e < 4294967296) (hf : f < 4294967296) (hg : g < 4294967296) :
    bits BinOp.xor IntKind.u32 (bits BinOp.and IntKind.u32 (e : Int) (f : Int)) (bits BinOp.and IntKind.u32 (bits BinOp.xor IntKind.u32 IntKind.u32.max (e : Int)) (g : Int)) = (((e &&& f) ^^^ ((4294967295 - e) &&& g) : Nat) : Int) := by
  rw [max32, u32_xor_nat _ _ (by decide) he, xor_ones e he, u32_and_nat _ _ he hf, u32_and_nat _ _ (by omega) hg, u32_xor_nat _ _ (and_lt he) (and_lt (by omega))]
theorem maj_int (a b c : Nat) (ha : a < 4294967296) (hb : b < 4294967296) (hc : c < 4294967296) :
    bits BinOp.xor IntKind.u32 (bits BinOp.xor IntKind.u32 (bits BinOp.and IntKind.u32 (a : Int) (b : Int)) (bits BinOp.and IntKind.u32 (a : Int) (c : Int))) (bits BinOp.and IntKind.u32 (b : Int) (c : Int)) = ((((a &&& b) ^^^ (a &&& c)) ^^^ (b &&& c) : Nat) : Int) := by
  rw [u32_and_nat _ _ ha hb, u32_and_nat _ _ ha hc, u32_and_nat _ _ hb hc, u32_xor_nat _ _ (and_lt ha) (and_lt ha), u32_xor_nat _ _ (xor_lt (and_lt ha) (and_lt ha)) (and_lt hb)]
theorem wrap_add (u v : Nat) : IntKind.u32.wrap ((u : Int) + (v : Int)) = ((add u v : Nat) : Int) := by rw [IntKind.wrap_u32']; exact add_int u v
/-- What holds at the head of each of the 64 rounds. -/
def MI (ks sc st : List Nat) (w wv : World) (v0 v1 v2 v3 v4 v5 v6 v7 i : Value) (wr : World) : Prop :=
  ∃ (k : Nat) (s : St), k ≤ 64 ∧ i = .int .i64 k ∧ Hid (s = rounds ks sc (stOf st) k) ∧ v0 = .int .u32 (s.a : Int) ∧ v1 = .int .u32 (s.b : Int) ∧ v2 = .int .u32 (s.c : Int) ∧ v3 = .int .u32 (s.d : Int) ∧ v4 = .int .u32 (s.e : Int) ∧ v5 = .int .u32 (s.f : Int) ∧ v6 = .int .u32 (s.g : Int) ∧ v7 = .int .u32 (s.h : Int) ∧ Hid (wr.heap = wv.heap) ∧ Below w.heap.size w wr
theorem set_row_mx {w : World} {g t i : Nat} {cs : Array Value} (v : Value) (h : w.heap[g]? = some (.cells cs t (0, 0))) : (w.setCell ⟨g, i, none⟩ v).heap[g]? = some (.cells (cs.setIfInBounds i v) t (0, 0)) := heap_setCell_same _ _ _ _ _ _ h
theorem row8 (w : World) (g t : Nat) (a0 a1 a2 a3 a4 a5 a6 a7 : Value) (h : w.heap[g]? = some (.cells #[a0, a1, a2, a3, a4, a5, a6, a7] t (0, 0))) (v0 v1 v2 v3 v4 v5 v6 v7 : Value) :
    ((((((((w.setCell ⟨g, 0, none⟩ v0).setCell ⟨g, 1, none⟩ v1).setCell ⟨g, 2, none⟩ v2).setCell ⟨g, 3, none⟩ v3).setCell ⟨g, 4, none⟩ v4).setCell ⟨g, 5, none⟩ v5).setCell ⟨g, 6, none⟩ v6).setCell ⟨g, 7, none⟩ v7).heap[g]? = some (.cells #[v0, v1, v2, v3, v4, v5, v6, v7] t (0, 0)) :=
  by
  have := set_row_mx (i := 7) v7 (set_row_mx (i := 6) v6 (set_row_mx (i := 5) v5 (set_row_mx (i := 4) v4 (set_row_mx (i := 3) v3 (set_row_mx (i := 2) v2 (set_row_mx (i := 1) v1 (set_row_mx (i := 0) v0 h)))))))
  simpa only [List.setIfInBounds_toArray, List.set_cons_zero, List.set_cons_succ] using this
theorem oth1 {w : World} {g g' i : Nat} (hne : g' ≠ g) (v : Value) : (w.setCell ⟨g, i, none⟩ v).heap[g']? = w.heap[g']? := heap_setCell_other _ _ _ _ hne
theorem oth8 (w : World) (g g' : Nat) (hne : g' ≠ g) (v0 v1 v2 v3 v4 v5 v6 v7 : Value) :
    ((((((((w.setCell ⟨g, 0, none⟩ v0).setCell ⟨g, 1, none⟩ v1).setCell ⟨g, 2, none⟩ v2).setCell ⟨g, 3, none⟩ v3).setCell ⟨g, 4, none⟩ v4).setCell ⟨g, 5, none⟩ v5).setCell ⟨g, 6, none⟩ v6).setCell ⟨g, 7, none⟩ v7).heap[g']? = w.heap[g']? :=
  (oth1 hne v7).trans ((oth1 hne v6).trans ((oth1 hne v5).trans ((oth1 hne v4).trans ((oth1 hne v3).trans ((oth1 hne v2).trans ((oth1 hne v1).trans (oth1 hne v0)))))))
theorem ws8 (st : List Nat) (h : st.length = 8) : ws st = #[.int .u32 ((st.getD 0 0 : Nat) : Int), .int .u32 ((st.getD 1 0 : Nat) : Int), .int .u32 ((st.getD 2 0 : Nat) : Int), .int .u32 ((st.getD 3 0 : Nat) : Int), .int .u32 ((st.getD 4 0 : Nat) : Int), .int .u32 ((st.getD 5 0 : Nat) : Int), .int .u32 ((st.getD 6 0 : Nat) : Int), .int .u32 ((st.getD 7 0 : Nat) : Int)] := by
  match st, h with
  | [_, _, _, _, _, _, _, _], _ => rfl
theorem xs_int (sa sb sc' sd se sf sg sh y x : Nat) (le : se < 4294967296) (lf : sf < 4294967296) (lg : sg < 4294967296) :
    (((sh : Int) + ((tri se 6 11 25 : Nat) : Int) + bits BinOp.xor IntKind.u32 (bits BinOp.and IntKind.u32 (se : Int) (sf : Int)) (bits BinOp.and IntKind.u32 (bits BinOp.xor IntKind.u32 (if IntKind.u32.signed = true then -1 else IntKind.u32.max) (se : Int)) (sg : Int)) + (y : Int)) % 4294967296 + (x : Int)) % 4294967296 = ((xs ⟨sa, sb, sc', sd, se, sf, sg, sh⟩ y x : Nat) : Int) := by
  have e := ch_int se sf sg le lf lg
  have hs : (if IntKind.u32.signed = true then (-1 : Int) else IntKind.u32.max) = IntKind.u32.max := rfl
  rw [hs, e]
  simp only [xs, add]
  generalize tri se 6 11 25 = t
  generalize (se &&& sf) ^^^ ((4294967295 - se) &&& sg) = c
  omega
theorem heap_drewN (w : World) (n : Nat) : (w.drewN n).heap = w.heap := rfl
theorem below16 {w wr : World} (h : Below w.heap.size w wr) (v0 v1 v2 v3 v4 v5 v6 v7 : Value) : Below w.heap.size w ((((((((((((((((wr.setCell ⟨w.heap.size, 0, none⟩ v0).setCell ⟨w.heap.size, 1, none⟩ v1).setCell ⟨w.heap.size, 2, none⟩ v2).setCell ⟨w.heap.size, 3, none⟩ v3).setCell ⟨w.heap.size, 4, none⟩ v4).setCell ⟨w.heap.size, 5, none⟩ v5).setCell ⟨w.heap.size, 6, none⟩ v6).setCell ⟨w.heap.size, 7, none⟩ v7).setCell ⟨w.heap.size + 1, 0, none⟩ v0).setCell ⟨w.heap.size + 1, 1, none⟩ v1).setCell ⟨w.heap.size + 1, 2, none⟩ v2).setCell ⟨w.heap.size + 1, 3, none⟩ v3).setCell ⟨w.heap.size + 1, 4, none⟩ v4).setCell ⟨w.heap.size + 1, 5, none⟩ v5).setCell ⟨w.heap.size + 1, 6, none⟩ v6).setCell ⟨w.heap.size + 1, 7, none⟩ v7) :=
  (Below.setCell (Below.setCell (Below.setCell (Below.setCell (Below.setCell (Below.setCell (Below.setCell (Below.setCell (Below.setCell (Below.setCell (Below.setCell (Below.setCell (Below.setCell (Below.setCell (Below.setCell (Below.setCell h (by simp) _) (by simp) _) (by simp) _) (by simp) _) (by simp) _) (by simp) _) (by simp) _) (by simp) _) (by simp) _) (by simp) _) (by simp) _) (by simp) _) (by simp) _) (by simp) _) (by simp) _) (by simp) _)
theorem join_val (st : List Nat) (s : St) : Ending.returned (.agg #[Value.int IntKind.u32 ((add (st.getD 0 0) s.a : Nat) : Int), Value.int IntKind.u32 ((add (st.getD 1 0) s.b : Nat) : Int), Value.int IntKind.u32 ((add (st.getD 2 0) s.c : Nat) : Int), Value.int IntKind.u32 ((add (st.getD 3 0) s.d : Nat) : Int), Value.int IntKind.u32 ((add (st.getD 4 0) s.e : Nat) : Int), Value.int IntKind.u32 ((add (st.getD 5 0) s.f : Nat) : Int), Value.int IntKind.u32 ((add (st.getD 6 0) s.g : Nat) : Int), Value.int IntKind.u32 ((add (st.getD 7 0) s.h : Nat) : Int)]) = Ending.returned (.agg (ws (joinS st s))) := rfl
theorem put_none (a : Act) (v : Value) : a.put none v = a := rfl
def z8 : List Nat := List.replicate 8 0
set_option maxRecDepth 100000 in
set_option maxHeartbeats 8000000 in
theorem mix_any (ks st blk : List Nat) (hst : st.length = 8) (hsw : Wrd st) (hkw : Wrd ks) (hb : Byt blk) (b off cap : Nat) (hcap : 64 ≤ cap) (hmax : cap ≤ maxLen) (w : World) (hlt : b < w.heap.size) (hg1 : 4 < w.heap.size)
    (hc : Hid (∀ j, j < 64 → w.cell? ⟨b, off + j, none⟩ = some (.int .u8 ((blk.getD j 0 : Nat) : Int)))) (hK : Hid (∀ j, j < 64 → w.cell? ⟨4, j, none⟩ = some (.int .u32 ((ks.getD j 0 : Nat) : Int)))) :
    Calls Tryd.prog 58 #[.agg (ws st), .slice (some ⟨b, off, none⟩) 64 cap] w fun e w' => e = .returned (.agg (ws (mixN ks st blk))) ∧ Below w.heap.size w w' := by
  obtain ⟨sc, hsc⟩ : ∃ x, x = sched blk := ⟨_, rfl⟩
  have HS : Hid (sc = sched blk) := hsc
  have hscl : sc.length = 64 := by rw [hsc]; exact sched_len blk
  have hscw : Wrd sc := by rw [hsc]; exact sched_wrd blk hb
  clear hsc
  go_enter Tryd.func58, Tryd.ntmps58
  go_wp2_with fail
  refine (spread_any blk hb b off cap hcap hmax _ (by simp; omega) (fun j hj => ?_)).mono ?_
  · exact (World.cell?_alloc_past _ _ _ (by simp; omega)).trans ((World.cell?_alloc_past _ _ _ hlt).trans (hc.out j hj))
  rintro e w1 ⟨rfl, hb1⟩
  rw [← HS.out]
  have hbx : Hid (w1.heap[w.heap.size]? = some (.cells (ws st) 96 (0, 0))) := (hb1.block _ (by simp; omega)).trans (heap_alloc2_old _ _ _)
  have hrs : Hid (w1.heap[w.heap.size + 1]? = some (.cells (ws z8) 96 (0, 0))) := (hb1.block _ (by simp)).trans (heap_alloc2_new _ _ _)
  have hs1 : w.heap.size + 2 ≤ w1.heap.size := by have := hb1.size; simpa using this
  have hbl1 : Below w.heap.size w w1 := (((Below.refl _ w).alloc (Nat.le_refl _) (.cells (ws st) 96)).alloc (by simp) (.cells (ws z8) 96)).trans (hb1.mono (by simp; omega))
  clear hb1
  go_wp2_with (refine wpList_store_row rfl 127 _ _ rfl _ _ rfl rfl 127 _ (by exact heap_alloc_new _ _) (by rw [size48, ws_size, hscl]) (by rw [ws_size, hscl]; rfl) (ws_one _) ?_)
  generalize hV : (w1.alloc (Obj.cells _ 127)).setRow w1.heap.size (ws sc) = wv
  have hB : Hid (wv.heap[w.heap.size]? = some (.cells (ws st) 96 (0, 0))) := by rw [← hV]; exact (setRow_other _ _ _ _ (by omega)).trans ((heap_alloc_old _ _ (h := by omega)).trans hbx.out)
  have hR : Hid (wv.heap[w.heap.size + 1]? = some (.cells (ws z8) 96 (0, 0))) := by rw [← hV]; exact (setRow_other _ _ _ _ (by omega)).trans ((heap_alloc_old _ _ (h := by omega)).trans hrs.out)
  have hS : Hid (wv.heap[w1.heap.size]? = some (.cells (ws sc) 127 (0, 0))) := by rw [← hV]; exact setRow_heap _ _ _ _ _ _ (heap_alloc_new _ _)
  have hbl : Below w.heap.size w wv := by rw [← hV]; exact below_setRow (hbl1.alloc (by omega) _) (by omega) _
  clear hV hbl1 hbx hrs
  have c0 : wv.cell? ⟨w.heap.size, 0, none⟩ = some (.int .u32 ((st.getD 0 0 : Nat) : Int)) := by rw [cell_of_row wv _ _ _ _ _ hB.out, ws_get _ _ (by omega)]
  have c1 : wv.cell? ⟨w.heap.size, 1, none⟩ = some (.int .u32 ((st.getD 1 0 : Nat) : Int)) := by rw [cell_of_row wv _ _ _ _ _ hB.out, ws_get _ _ (by omega)]
  have c2 : wv.cell? ⟨w.heap.size, 2, none⟩ = some (.int .u32 ((st.getD 2 0 : Nat) : Int)) := by rw [cell_of_row wv _ _ _ _ _ hB.out, ws_get _ _ (by omega)]
  have c3 : wv.cell? ⟨w.heap.size, 3, none⟩ = some (.int .u32 ((st.getD 3 0 : Nat) : Int)) := by rw [cell_of_row wv _ _ _ _ _ hB.out, ws_get _ _ (by omega)]
  have c4 : wv.cell? ⟨w.heap.size, 4, none⟩ = some (.int .u32 ((st.getD 4 0 : Nat) : Int)) := by rw [cell_of_row wv _ _ _ _ _ hB.out, ws_get _ _ (by omega)]
  have c5 : wv.cell? ⟨w.heap.size, 5, none⟩ = some (.int .u32 ((st.getD 5 0 : Nat) : Int)) := by rw [cell_of_row wv _ _ _ _ _ hB.out, ws_get _ _ (by omega)]
  have c6 : wv.cell? ⟨w.heap.size, 6, none⟩ = some (.int .u32 ((st.getD 6 0 : Nat) : Int)) := by rw [cell_of_row wv _ _ _ _ _ hB.out, ws_get _ _ (by omega)]
  have c7 : wv.cell? ⟨w.heap.size, 7, none⟩ = some (.int .u32 ((st.getD 7 0 : Nat) : Int)) := by rw [cell_of_row wv _ _ _ _ _ hB.out, ws_get _ _ (by omega)]
  obtain ⟨s0, hs0'⟩ : ∃ x, x = st.getD 0 0 := ⟨_, rfl⟩
  rw [← hs0'] at c0
  obtain ⟨s1, hs1'⟩ : ∃ x, x = st.getD 1 0 := ⟨_, rfl⟩
  rw [← hs1'] at c1
  obtain ⟨s2, hs2'⟩ : ∃ x, x = st.getD 2 0 := ⟨_, rfl⟩
  rw [← hs2'] at c2
  obtain ⟨s3, hs3'⟩ : ∃ x, x = st.getD 3 0 := ⟨_, rfl⟩
  rw [← hs3'] at c3
  obtain ⟨s4, hs4'⟩ : ∃ x, x = st.getD 4 0 := ⟨_, rfl⟩
  rw [← hs4'] at c4
  obtain ⟨s5, hs5'⟩ : ∃ x, x = st.getD 5 0 := ⟨_, rfl⟩
  rw [← hs5'] at c5
  obtain ⟨s6, hs6'⟩ : ∃ x, x = st.getD 6 0 := ⟨_, rfl⟩
  rw [← hs6'] at c6
  obtain ⟨s7, hs7'⟩ : ∃ x, x = st.getD 7 0 := ⟨_, rfl⟩
  rw [← hs7'] at c7
  have S0 : Hid (s0 = st.getD 0 0) := hs0'
  have S1 : Hid (s1 = st.getD 1 0) := hs1'
  have S2 : Hid (s2 = st.getD 2 0) := hs2'
  have S3 : Hid (s3 = st.getD 3 0) := hs3'
  have S4 : Hid (s4 = st.getD 4 0) := hs4'
  have S5 : Hid (s5 = st.getD 5 0) := hs5'
  have S6 : Hid (s6 = st.getD 6 0) := hs6'
  have S7 : Hid (s7 = st.getD 7 0) := hs7'
  clear hs0' hs1' hs2' hs3' hs4' hs5' hs6' hs7'
  rw [put_none]
  go_region
  go_wp2
  go_region
  go_wp2_with (refine wpList_load_row rfl 127 _ rfl _ rfl 127 _ (0, 0) _ (by exact hS.out) Tryd.underlying127 rfl (by rw [size48, ws_size, hscl]) ?_)
  go_loopw [6, 7, 8, 9, 10, 11, 12, 13, 37] (fun v0 v1 v2 v3 v4 v5 v6 v7 i wr => MI ks sc st w wv v0 v1 v2 v3 v4 v5 v6 v7 i wr) (fun _ _ _ _ _ _ _ _ i _ => 64 - (intOf i).toNat)
  case atStart =>
    refine ⟨0, stOf st, by omega, rfl, rfl, ?_, ?_, ?_, ?_, ?_, ?_, ?_, ?_, rfl, hbl.drew.drew⟩
    · rw [S0.out]; rfl
    · rw [S1.out]; rfl
    · rw [S2.out]; rfl
    · rw [S3.out]; rfl
    · rw [S4.out]; rfl
    · rw [S5.out]; rfl
    · rw [S6.out]; rfl
    · rw [S7.out]; rfl
  case round =>
    obtain ⟨k, s, hk, rfl, Hs, rfl, rfl, rfl, rfl, rfl, rfl, rfl, rfl, Hh, hblr⟩ := hrel
    clear c0 c1 c2 c3 c4 c5 c6 c7
    by_cases hlt64 : k < 64
    · have hok : s.ok := by rw [Hs.out]; exact rounds_ok _ _ _ (stOf_ok st hsw) k
      obtain ⟨sa, sb, sc', sd, se, sf, sg, sh⟩ := s
      obtain ⟨la, lb, lc, ld, le, lf, lg, lh⟩ := hok
      obtain ⟨x, hx⟩ : ∃ x, x = sc.getD k 0 := ⟨_, rfl⟩
      obtain ⟨y, hy⟩ : ∃ x, x = ks.getD k 0 := ⟨_, rfl⟩
      have hix := fun (w : World) => run_index_ws (P := Tryd.prog) w Tryd.underlying127 Tryd.underlying95 size40 sc hscl k hlt64
      rw [← hx] at hix
      have cy : wr.cell? ⟨4, k, none⟩ = some (.int .u32 (y : Int)) := by
        rw [hy]; exact (hblr.cell (by exact hg1)).trans (hK.out k hlt64)
      have lx : x < 4294967296 := by rw [hx]; exact wrd_get hscw _
      have ly : y < 4294967296 := by rw [hy]; exact wrd_get hkw _
      have HX : Hid (x = sc.getD k 0) := hx
      have HY : Hid (y = ks.getD k 0) := hy
      have hk0 : (0 : Int) ≤ (k : Int) := by omega
      have hk1 : (k : Int) < 64 := by omega
      simp only at la lb lc ld le lf lg lh
      clear hx hy
      as_aux_lemma =>
      go_wp2
      go_quiet ((go_at_call 67; exact Calls.quiet_of_same (turns_any se 6 11 25 le (by decide) (by decide) (by decide) (by decide) (by decide) (by decide) _)))
      have hE1 : (((sh : Int) + ((tri se 6 11 25 : Nat) : Int) + bits BinOp.xor IntKind.u32 (bits BinOp.and IntKind.u32 (se : Int) (sf : Int)) (bits BinOp.and IntKind.u32 (bits BinOp.xor IntKind.u32 (if IntKind.u32.signed = true then -1 else IntKind.u32.max) (se : Int)) (sg : Int)) + (y : Int)) % 4294967296 + (x : Int)) % 4294967296 = ((xs ⟨sa, sb, sc', sd, se, sf, sg, sh⟩ y x : Nat) : Int) := xs_int sa sb sc' sd se sf sg sh y x le lf lg
      rw [hE1]
      clear hE1
      as_aux_lemma =>
      have lX : xs ⟨sa, sb, sc', sd, se, sf, sg, sh⟩ y x < 4294967296 := add_lt _ _
      revert lX
      generalize hX2 : xs ⟨sa, sb, sc', sd, se, sf, sg, sh⟩ y x = X'
      intro lX
      have HX2 : Hid (xs ⟨sa, sb, sc', sd, se, sf, sg, sh⟩ y x = X') := hX2
      clear hX2
      go_wp2_with ((go_at_call 67; refine (turns_any sa 2 13 22 la (by decide) (by decide) (by decide) (by decide) (by decide) (by decide) _).mono ?_; rintro e w' ⟨rfl, rfl⟩))
      go_roundw
      case rel =>
        refine ⟨k + 1, round ⟨sa, sb, sc', sd, se, sf, sg, sh⟩ y x, by omega, by go_num, ?_, ?_, rfl, rfl, rfl, ?_, rfl, rfl, rfl, ?_, ?_⟩
        · show _ = _
          rw [rounds, ← Hs.out, ← HX.out, ← HY.out]
        · rw [maj_int sa sb sc' la lb lc, add_int, add_int, ← HX2.out]
          rfl
        · rw [add_int, ← HX2.out]
          rfl
        · exact (heap_drewN wr nq).trans Hh.out
        · exact below_drewN hblr nq
      case measure => simp [intOf]; omega
    · have hk64 : k = 64 := by omega
      have HE : Hid (s = rounds ks sc (stOf st) 64) := by rw [hk64] at Hs; exact Hs
      have HB : wr.heap[w.heap.size]? = some (.cells #[.int .u32 ((st.getD 0 0 : Nat) : Int), .int .u32 ((st.getD 1 0 : Nat) : Int), .int .u32 ((st.getD 2 0 : Nat) : Int), .int .u32 ((st.getD 3 0 : Nat) : Int), .int .u32 ((st.getD 4 0 : Nat) : Int), .int .u32 ((st.getD 5 0 : Nat) : Int), .int .u32 ((st.getD 6 0 : Nat) : Int), .int .u32 ((st.getD 7 0 : Nat) : Int)] 96 (0, 0)) := by rw [Hh.out, hB.out, ws8 st hst]
      have HR2 : Hid (wr.heap[w.heap.size + 1]? = some (.cells (ws z8) 96 (0, 0))) := by show _ = _; rw [Hh.out]; exact hR.out
      have c0 : wr.cell? ⟨w.heap.size, 0, none⟩ = some (.int .u32 (s0 : Int)) := by rw [cell_of_row wr _ _ _ _ _ HB, S0.out]; rfl
      have c1 : wr.cell? ⟨w.heap.size, 1, none⟩ = some (.int .u32 (s1 : Int)) := by rw [cell_of_row wr _ _ _ _ _ HB, S1.out]; rfl
      have c2 : wr.cell? ⟨w.heap.size, 2, none⟩ = some (.int .u32 (s2 : Int)) := by rw [cell_of_row wr _ _ _ _ _ HB, S2.out]; rfl
      have c3 : wr.cell? ⟨w.heap.size, 3, none⟩ = some (.int .u32 (s3 : Int)) := by rw [cell_of_row wr _ _ _ _ _ HB, S3.out]; rfl
      have c4 : wr.cell? ⟨w.heap.size, 4, none⟩ = some (.int .u32 (s4 : Int)) := by rw [cell_of_row wr _ _ _ _ _ HB, S4.out]; rfl
      have c5 : wr.cell? ⟨w.heap.size, 5, none⟩ = some (.int .u32 (s5 : Int)) := by rw [cell_of_row wr _ _ _ _ _ HB, S5.out]; rfl
      have c6 : wr.cell? ⟨w.heap.size, 6, none⟩ = some (.int .u32 (s6 : Int)) := by rw [cell_of_row wr _ _ _ _ _ HB, S6.out]; rfl
      have c7 : wr.cell? ⟨w.heap.size, 7, none⟩ = some (.int .u32 (s7 : Int)) := by rw [cell_of_row wr _ _ _ _ _ HB, S7.out]; rfl
      have f0 := frozen_of_row wr _ 0 _ _ HB
      have f1 := frozen_of_row wr _ 1 _ _ HB
      have f2 := frozen_of_row wr _ 2 _ _ HB
      have f3 := frozen_of_row wr _ 3 _ _ HB
      have f4 := frozen_of_row wr _ 4 _ _ HB
      have f5 := frozen_of_row wr _ 5 _ _ HB
      have f6 := frozen_of_row wr _ 6 _ _ HB
      have f7 := frozen_of_row wr _ 7 _ _ HB
      have r0 : wr.cell? ⟨w.heap.size + 1, 0, none⟩ = some (.int .u32 0) := by rw [cell_of_row wr _ _ _ _ _ HR2.out]; rfl
      have k0 := frozen_of_row wr _ 0 _ _ HR2.out
      have r1 : wr.cell? ⟨w.heap.size + 1, 1, none⟩ = some (.int .u32 0) := by rw [cell_of_row wr _ _ _ _ _ HR2.out]; rfl
      have k1 := frozen_of_row wr _ 1 _ _ HR2.out
      have r2 : wr.cell? ⟨w.heap.size + 1, 2, none⟩ = some (.int .u32 0) := by rw [cell_of_row wr _ _ _ _ _ HR2.out]; rfl
      have k2 := frozen_of_row wr _ 2 _ _ HR2.out
      have r3 : wr.cell? ⟨w.heap.size + 1, 3, none⟩ = some (.int .u32 0) := by rw [cell_of_row wr _ _ _ _ _ HR2.out]; rfl
      have k3 := frozen_of_row wr _ 3 _ _ HR2.out
      have r4 : wr.cell? ⟨w.heap.size + 1, 4, none⟩ = some (.int .u32 0) := by rw [cell_of_row wr _ _ _ _ _ HR2.out]; rfl
      have k4 := frozen_of_row wr _ 4 _ _ HR2.out
      have r5 : wr.cell? ⟨w.heap.size + 1, 5, none⟩ = some (.int .u32 0) := by rw [cell_of_row wr _ _ _ _ _ HR2.out]; rfl
      have k5 := frozen_of_row wr _ 5 _ _ HR2.out
      have r6 : wr.cell? ⟨w.heap.size + 1, 6, none⟩ = some (.int .u32 0) := by rw [cell_of_row wr _ _ _ _ _ HR2.out]; rfl
      have k6 := frozen_of_row wr _ 6 _ _ HR2.out
      have r7 : wr.cell? ⟨w.heap.size + 1, 7, none⟩ = some (.int .u32 0) := by rw [cell_of_row wr _ _ _ _ _ HR2.out]; rfl
      have k7 := frozen_of_row wr _ 7 _ _ HR2.out
      have hne1 : w.heap.size ≠ w.heap.size + 1 := by omega
      have hne2 : w.heap.size + 1 ≠ w.heap.size := by omega
      have HRL : Hid (wr.heap[w.heap.size + 1]? = some (.cells #[Value.int IntKind.u32 0, Value.int IntKind.u32 0, Value.int IntKind.u32 0, Value.int IntKind.u32 0, Value.int IntKind.u32 0, Value.int IntKind.u32 0, Value.int IntKind.u32 0, Value.int IntKind.u32 0] 96 (0, 0))) := HR2
      clear hk64 Hs HB hR hB hS Hh hmax hcap hK hc
      rename_i Q' K hKK
      have HT : Hid (∀ a w, Code.wp Tryd.prog tail18 Q' a w → K a w) := hKK
      clear hKK
      as_aux_lemma =>
      go_wp2
      refine HT.out _ _ ?_
      refine tail_any w.heap.size (w.heap.size + 1) hne1 s0 s1 s2 s3 s4 s5 s6 s7 s.a s.b s.c s.d s.e s.f s.g s.h (add s0 s.a) (add s1 s.b) (add s2 s.c) (add s3 s.d) (add s4 s.e) (add s5 s.f) (add s6 s.g) (add s7 s.h) _ _ _ _ _ _ _ _ _ _ _ _ _ _ _ _ _ _ _ _ _ _ _ _ _ _ _ _ _ _ _ _ _ _ _ _ _ _ _ _ _ _ _ _ _ _ _ _ _ _ _ _ _ _ _ _ _ _ _ _ _ _ _ _ _ _ _ _ _ _ _ _ _ _ _ _ _ _ _ _ _ _ _ _ _ _ _ _ _ _ _ _ _ _ _ _ _ _ _ _ _ _ _ _ _ _ _ _ _ _ _ _ _ _ _ _ _ _ _ c0 f0 r0 k0 (add_int s0 s.a) c1 f1 r1 k1 (add_int s1 s.b) c2 f2 r2 k2 (add_int s2 s.c) c3 f3 r3 k3 (add_int s3 s.d) c4 f4 r4 k4 (add_int s4 s.e) c5 f5 r5 k5 (add_int s5 s.f) c6 f6 r6 k6 (add_int s6 s.g) c7 f7 r7 k7 (add_int s7 s.h) _ ?_
      refine ⟨?_, below16 hblr _ _ _ _ _ _ _ _⟩
      rw [S0.out, S1.out, S2.out, S3.out, S4.out, S5.out, S6.out, S7.out, join_val, HE.out, HS.out]
      rfl
end Go.Proofs.YtceclpabdfncoaaDoor.Sha
