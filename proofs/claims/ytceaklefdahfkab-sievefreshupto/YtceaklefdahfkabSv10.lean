/- The sieve's table: rowOf. -/
import Derived.Test.YtceaklefdahfkabSv9
import Derived.Laws.CopyOwn
namespace Go.Proofs.Ytceaklefdahfkab
open Go.RowKit
theorem wi32 (x : Int) (h1 : -2147483648 ≤ x) (h2 : x < 2147483648) : IntKind.i32.wrap x = x := by
  have hb : IntKind.i32.bits = 32 := rfl
  have hs : IntKind.i32.signed = true := rfl
  unfold IntKind.wrap
  rw [hb, hs]
  have e1 : (2 : Int) ^ 32 = 4294967296 := by decide
  have e2 : (2 : Int) ^ (32 - 1) = 2147483648 := by decide
  simp only [e1, e2, Bool.true_and, decide_eq_true_eq]
  by_cases h : 2147483648 ≤ x % 4294967296
  · rw [if_pos h]; omega
  · rw [if_neg h]; omega
def ldR (v : Value) : Sem Value := Instr.loadAt 121 v
theorem toLdR (v : Value) : Instr.loadAt 121 v = ldR v := rfl
def stR (a v : Value) : Sem Unit := Instr.storeAt 121 a v
theorem toStR (a v : Value) : Instr.storeAt 121 a v = stR a v := rfl
theorem und118 : Try.prog.underlying 121 = some (.array 256 21) := by kernel_rfl
theorem size118 : (Try.prog.info? 121).map (·.size) = some 256 := by kernel_rfl
theorem ik_one (k : IntKind) (l : List Nat) : (ik k l).all (·.oneCell') = true := by simp [ik, Value.oneCell']
set_option maxRecDepth 100000 in
theorem zero118 : Try.zeroCells121 = ik .i32 (List.replicate 256 0) := by kernel_rfl
theorem run_ldR (w : World) (g : Nat) (l : List Nat) (hg : w.heap[g]? = some (.cells (ik .i32 l) 121 (0, 0))) (hl : l.length = 256) : (ldR (.pointer (some ⟨g, 0, none⟩))).run Try.prog w = .ok (.agg (ik .i32 l)) w := by
  unfold ldR
  simp only [Instr.loadAt, Instr.sureAddr, Sem.run_bind, Sem.run_pure, Result.andThen_ok, run_loadVar_row w g 121 121 (ik .i32 l) (0, 0) _ hg und118 rfl (by rw [size118, ik_size, hl])]
theorem run_stR (w : World) (g : Nat) (old l : List Nat) (hg : w.heap[g]? = some (.cells (ik .i32 old) 121 (0, 0))) (h1 : old.length = 256) (h2 : l.length = 256) : (stR (.pointer (some ⟨g, 0, none⟩)) (.agg (ik .i32 l))).run Try.prog w = .ok () (w.setRow g (ik .i32 l)) := by
  unfold stR
  simp only [Instr.storeAt, Instr.sureAddr, Sem.run_bind, Sem.run_pure, Result.andThen_ok, run_storeVar_row w g 121 121 (ik .i32 old) (ik .i32 l) hg (by rw [size118, ik_size, h2]) (by rw [ik_size, ik_size, h1, h2]) (ik_one _ _)]
/-- A row of a slice of rows. -/
theorem run_ldC (w : World) (b o : Nat) (l : List Nat) (hl : l.length = 256) (hc : ∀ j, j < 256 → w.cell? ⟨b, o + j, none⟩ = some (.int .i32 ((l.getD j 0 : Nat) : Int))) : (ldR (.pointer (some ⟨b, o, none⟩))).run Try.prog w = .ok (.agg (ik .i32 l)) w := by
  have h := run_loadCells_list (P := Try.prog) w ⟨b, o, none⟩ (ik .i32 l).toList (fun j v hv => by
    have hadd : (⟨b, o, none⟩ : Addr).add j = ⟨b, o + j, none⟩ := by unfold Addr.add; split <;> simp_all
    have hj : j < l.length := by
      have := (List.getElem?_eq_some_iff.1 hv).1
      simpa [ik] using this
    rw [hadd, hc j (by omega), ← hv, Array.getElem?_toList, ik_get .i32 l j hj])
  unfold ldR
  cases hq : Try.prog.info? 121 with
  | none => have := size118; rw [hq] at this; cases this
  | some i =>
    have hs : i.size = 256 := by have := size118; rw [hq] at this; exact Option.some.inj this
    have hagg : (isAgg 121).run Try.prog w = .ok true w := by
      unfold isAgg
      rw [Sem.run_bind, run_underlying und118 w]
      rfl
    have hn : (ik .i32 l).toList.length = 256 := by simp [ik, hl]
    rw [hn] at h
    simp [Instr.loadAt, Instr.sureAddr, loadVar, Sem.run_bind, hagg, sizeOf, typeInfo, hq, hs, h]
/-- The followers laid into a row. -/
def rwl (t : Tbl) (f : Nat) (r : List Nat) : Nat → List Nat
  | 0 => r
  | k + 1 => (rwl t f r k).set (t.letters.getD (f + k) 0) (f + k)
theorem rwl_len (t : Tbl) (f : Nat) (r : List Nat) : ∀ k, (rwl t f r k).length = r.length
  | 0 => rfl
  | k + 1 => by rw [rwl, List.length_set, rwl_len t f r k]
/-- A state's row. -/
def rw0 (t : Tbl) (s : Nat) : List Nat := if 0 < s then t.rows.getD (t.backs.getD s 0) [] else List.replicate 256 0
def rwO (t : Tbl) (s : Nat) : List Nat := rwl t (t.firsts.getD s 0) (rw0 t s) (t.firsts.getD (s + 1) 0 - t.firsts.getD s 0)
attribute [local go_sem ↓] toLdR toStR
set_option maxRecDepth 100000 in
set_option maxHeartbeats 1600000 in
theorem rowOf_any (g : Nat) (t : Tbl) (hb : Bd t) (hl : Byt t.letters) (s : Nat) (hs : s + 1 < t.firsts.length) (hf : t.firsts.getD s 0 ≤ t.firsts.getD (s + 1) 0) (hfl : t.firsts.getD (s + 1) 0 ≤ t.letters.length)
    (hbk : 0 < s → s < t.backs.length ∧ t.backs.getD s 0 < t.rows.length) (hrl : 0 < s → (t.rows.getD (t.backs.getD s 0) []).length = 256) (w : World) (h : Tab g t w) :
    Calls Try.prog 91 #[.pointer (some ⟨g, 0, none⟩), .int .i32 (s : Int)] w fun e w' => e = .returned (.agg (ik .i32 (rwO t s))) ∧ Below w.heap.size w w' := by
  have hR0 : (rw0 t s).length = 256 := by
    unfold rw0
    by_cases h0 : 0 < s
    · rw [if_pos h0]; exact hrl h0
    · rw [if_neg h0]; simp
  obtain ⟨vl, vd, vf, vb, vr, vv, h0, h1, _, h3, h4, h5, _⟩ := h
  obtain ⟨ol, cl, rfl, _, _, hl3⟩ := h1.form
  obtain ⟨of', cf, rfl, _, _, hf3⟩ := h3.form
  obtain ⟨ob, cb, rfl, _, _, hb3⟩ := h4.form
  obtain ⟨or', cr, rfl, _, hr3⟩ := h5.form
  have gz : g < w.heap.size := (Array.getElem?_eq_some_iff.1 h0).1
  obtain ⟨bf, offf, rfl, bfz, hcf⟩ := hf3 (by omega)
  have HGZ : Hid (g < w.heap.size) := gz
  have HBF : Hid (bf < w.heap.size ∧ ∀ j, j < t.firsts.length → w.cell? ⟨bf, offf + j, none⟩ = some (.int .i32 ((t.firsts.getD j 0 : Nat) : Int))) := ⟨bfz, hcf⟩
  have HH : Hid (w.heap[g]? = some (.cells #[.int .i64 (t.width : Int), .slice ol t.letters.length cl, vd, .slice (some ⟨bf, offf, none⟩) t.firsts.length cf, .slice ob t.backs.length cb, .slice or' t.rows.length cr, vv] 100 (0, 0))) := h0
  have HL3 : Hid (0 < t.letters.length → ∃ b off, ol = some ⟨b, off, none⟩ ∧ b < w.heap.size ∧ ∀ j, j < t.letters.length → w.cell? ⟨b, off + j, none⟩ = some (.int .u8 ((t.letters.getD j 0 : Nat) : Int))) := hl3
  have HB3 : Hid (0 < t.backs.length → ∃ b off, ob = some ⟨b, off, none⟩ ∧ b < w.heap.size ∧ ∀ j, j < t.backs.length → w.cell? ⟨b, off + j, none⟩ = some (.int .i32 ((t.backs.getD j 0 : Nat) : Int))) := hb3
  have HR3 : Hid (0 < t.rows.length → ∃ b off, or' = some ⟨b, off, none⟩ ∧ b < w.heap.size ∧ ∀ j c, j < t.rows.length → c < 256 → w.cell? ⟨b, off + j * 256 + c, none⟩ = some (.int .i32 (((t.rows.getD j []).getD c 0 : Nat) : Int))) := hr3
  have HBD : Hid (Bd t) := hb
  have HLB : Hid (Byt t.letters) := hl
  have HBK : Hid (0 < s → s < t.backs.length ∧ t.backs.getD s 0 < t.rows.length) := hbk
  have HRL : Hid (0 < s → (t.rows.getD (t.backs.getD s 0) []).length = 256) := hrl
  have HR0 : Hid ((rw0 t s).length = 256) := hR0
  obtain ⟨Wa, hWa⟩ : ∃ Wa, w.alloc (.cells Try.zeroCells121 121) = Wa := ⟨_, rfl⟩
  obtain ⟨Wb, hWb⟩ : ∃ Wb, Wa.alloc (.cells Try.zeroCells121 121) = Wb := ⟨_, rfl⟩
  have za : Wa.heap.size = w.heap.size + 1 := by rw [← hWa]; simp
  have zb : Wb.heap.size = w.heap.size + 2 := by rw [← hWb]; simp [za]
  have HB0 : Hid (Below w.heap.size w Wb) := by
    refine ⟨by rw [← hWb, ← hWa]; rfl, by rw [← hWb, ← hWa]; rfl, by rw [← hWb, ← hWa]; rfl, by omega, fun j hj => by rw [← hWb, heap_alloc_old _ _ (h := by omega), ← hWa, heap_alloc_old _ _ (h := hj)]⟩
  have HA0 : Hid (Wb.heap[w.heap.size]? = some (.cells (ik .i32 (List.replicate 256 0)) 121 (0, 0))) := by
    show _ = _
    rw [← zero118, ← hWb, heap_alloc_old _ _ (h := by omega), ← hWa]; exact heap_alloc_new _ _
  have HA1 : Hid (Wb.heap[Wa.heap.size]? = some (.cells (ik .i32 (List.replicate 256 0)) 121 (0, 0))) := by
    show _ = _
    rw [← zero118, ← hWb]; exact heap_alloc_new _ _
  have HZA : Hid (Wa.heap.size = w.heap.size + 1) := za
  have hs' := HBD.out.fl
  have HSB : Hid (s ≤ 1000000) := by show _ ≤ _; omega
  have HFF : Hid (s + 1 < t.firsts.length ∧ t.firsts.getD s 0 ≤ t.firsts.getD (s + 1) 0 ∧ t.firsts.getD (s + 1) 0 ≤ t.letters.length) := ⟨hs, hf, hfl⟩
  clear h0 h1 h3 h4 h5 hl3 hf3 hb3 hr3 hb hl hbk hrl hR0 gz bfz hcf za zb hs' hs hf hfl
  have CELL : Hid (∀ W, Below w.heap.size w W → W.cell? ⟨g, 1, none⟩ = some (.slice ol t.letters.length cl) ∧ W.cell? ⟨g, 3, none⟩ = some (.slice (some ⟨bf, offf, none⟩) t.firsts.length cf) ∧ W.cell? ⟨g, 4, none⟩ = some (.slice ob t.backs.length cb) ∧ W.cell? ⟨g, 5, none⟩ = some (.slice or' t.rows.length cr) ∧ ∀ j, j < t.firsts.length → W.cell? ⟨bf, offf + j, none⟩ = some (.int .i32 ((t.firsts.getD j 0 : Nat) : Int))) := fun W hW => by
    have hr := (hW.block g HGZ.out).trans HH.out
    exact ⟨(cell_of_row W g 1 _ _ _ hr).trans rfl, (cell_of_row W g 3 _ _ _ hr).trans rfl, (cell_of_row W g 4 _ _ _ hr).trans rfl, (cell_of_row W g 5 _ _ _ hr).trans rfl, fun j hj => (World.cell?_of_block (w := w) (hW.block bf HBF.out.1)).trans (HBF.out.2 j hj)⟩
  go_enter Try.func91, Try.ntmps91
  by_cases h0 : 0 < s
  · have h0i : (0 : Int) < (s : Int) := by omega
    have h0j : (0 : Int) ≤ (s : Int) := by omega
    obtain ⟨D0, hD0⟩ : ∃ D0, Wb.drew = D0 := ⟨_, rfl⟩
    have BD0 : Below w.heap.size w D0 := HB0.out.trans (Below.same (Below.refl _ Wb) (by rw [← hD0]; rfl) (by rw [← hD0]; rfl) (by rw [← hD0]; rfl) (by rw [← hD0]; rfl))
    obtain ⟨q1, q3, q4, q5, qf⟩ := CELL.out D0 BD0
    obtain ⟨k1, k2⟩ := HBK.out h0
    obtain ⟨bb, offb, rfl, bbz, hcb⟩ := HB3.out (by omega)
    obtain ⟨br, offr, rfl, brz, hcr⟩ := HR3.out (by omega)
    have cb1 : D0.cell? ⟨bb, offb + s, none⟩ = some (.int .i32 ((t.backs.getD s 0 : Nat) : Int)) := (World.cell?_of_block (w := w) (BD0.block bb bbz)).trans (hcb s k1)
    have hx := HBD.out.b s
    have cr1 : (ldR (.pointer (some ⟨br, offr + t.backs.getD s 0 * 256, none⟩))).run Try.prog D0 = .ok (.agg (ik .i32 (t.rows.getD (t.backs.getD s 0) []))) D0 := run_ldC D0 br _ _ (HRL.out h0) fun j hj => (World.cell?_of_block (w := w) (BD0.block br brz)).trans (hcr _ j k2 hj)
    have hA1 : D0.heap[Wa.heap.size]? = some (.cells (ik .i32 (List.replicate 256 0)) 121 (0, 0)) := by rw [← hD0]; exact HA1.out
    have hA0 : D0.heap[w.heap.size]? = some (.cells (ik .i32 (List.replicate 256 0)) 121 (0, 0)) := by rw [← hD0]; exact HA0.out
    have cs1 := run_stR D0 Wa.heap.size _ (t.rows.getD (t.backs.getD s 0) []) hA1 (by simp) (HRL.out h0)
    obtain ⟨W1, hW1⟩ : ∃ W1, D0.setRow Wa.heap.size (ik .i32 (t.rows.getD (t.backs.getD s 0) [])) = W1 := ⟨_, rfl⟩
    rw [hW1] at cs1
    have HR : Hid (W1.heap[Wa.heap.size]? = some (.cells (ik .i32 (rw0 t s)) 121 (0, 0))) := by
      show _ = _
      rw [← hW1, rw0, if_pos h0]; exact setRow_heap _ _ _ _ _ _ hA1
    have HZ : Hid (W1.heap[w.heap.size]? = some (.cells (ik .i32 (List.replicate 256 0)) 121 (0, 0))) := by
      show _ = _
      rw [← hW1, setRow_other _ _ _ _ (by have := HZA.out; omega)]; exact hA0
    have HB : Hid (Below w.heap.size w W1) := by
      rw [← hW1]; exact below_setRow BD0 (by have := HZA.out; omega) _
    have k1i : (s : Int) < (t.backs.length : Int) := by omega
    have hx0 : (0 : Int) ≤ ((t.backs.getD s 0 : Nat) : Int) := by omega
    have hx1 : ((t.backs.getD s 0 : Nat) : Int) < (t.rows.length : Int) := by omega
    clear q1 q3 qf hA1 hA0 BD0 k1 k2 hcb hcr hx hW1
    revert cb1 cr1 cs1 hx0 hx1
    generalize t.rows.getD (t.backs.getD s 0) [] = R
    generalize t.backs.getD s 0 = x
    intro cb1 cr1 cs1 hx0 hx1
    go_wp2_with fail
    go_region
    clear q4 q5 cb1 cr1 cs1 hx0 hx1 k1i hWa hWb hD0
    obtain ⟨q1, q3, q4, q5, qf⟩ := CELL.out W1 HB.out
    obtain ⟨f1, f2, f3⟩ := HFF.out
    have cf0 := qf s (by omega)
    have hsi : (s : Int) < (t.firsts.length : Int) := by omega
    clear q1 q4 q5 qf f1 f2 f3
    clear HB3 HR3 HBK HRL HA0 HA1 HB0
    go_wp2_with fail
    clear q3 cf0 hsi h0i
    go_loopw [6] (fun fv wr => ∃ k f : Nat, fv = .int .i32 (f : Int) ∧ Hid (f = t.firsts.getD s 0 + k) ∧ Hid (f ≤ t.firsts.getD (s + 1) 0) ∧ Hid (wr.heap[Wa.heap.size]? = some (.cells (ik .i32 (rwl t (t.firsts.getD s 0) (rw0 t s) k)) 121 (0, 0))) ∧ Hid (wr.heap[w.heap.size]? = some (.cells (ik .i32 (List.replicate 256 0)) 121 (0, 0))) ∧ Hid (Below w.heap.size w wr)) (fun fv _ => t.firsts.getD (s + 1) 0 - (intOf fv).toNat)
    case atStart => exact ⟨0, _, rfl, rfl, HFF.out.2.1, HR, HZ, HB⟩
    case round =>
      clear HR HZ HB
      obtain ⟨k, f, rfl, HF, HFE, HR, HZ, HB⟩ := hrel
      obtain ⟨q1, q3, q4, q5, qf⟩ := CELL.out wr HB.out
      obtain ⟨f1, f2, f3⟩ := HFF.out
      have cf1 := qf (s + 1) (by omega)
      have b1 := HBD.out.f (s + 1)
      have b2 := HBD.out.fl
      have ew : IntKind.i32.wrap ((s : Int) + 1) = ((s + 1 : Nat) : Int) := by
        have := HSB.out
        rw [wi32 _ (by omega) (by omega)]; omega
      have hsi0 : (0 : Int) ≤ ((s + 1 : Nat) : Int) := by omega
      have hsi : ((s + 1 : Nat) : Int) < (t.firsts.length : Int) := by omega
      have hr256 : (rwl t (t.firsts.getD s 0) (rw0 t s) k).length = 256 := (rwl_len _ _ _ k).trans HR0.out
      have HFE1 := HFE.out
      have HF1 := HF.out
      by_cases hlt : f < t.firsts.getD (s + 1) 0
      · obtain ⟨bl, offl, rfl, blz, hcl⟩ := HL3.out (by omega)
        have cl1 : wr.cell? ⟨bl, offl + f, none⟩ = some (.int .u8 ((t.letters.getD f 0 : Nat) : Int)) := (World.cell?_of_block (w := w) (HB.out.block bl blz)).trans (hcl f (by omega))
        have hc256 : t.letters.getD f 0 < 256 := by
          have : t.letters.getD f 0 = t.letters[f] := by simp [List.getD, show f < t.letters.length by omega]
          rw [this]; exact HLB.out _ (List.getElem_mem _)
        have hfl0 : (0 : Int) ≤ (f : Int) := by omega
        have hfl1 : (f : Int) < (t.letters.length : Int) := by omega
        have hflt : (f : Int) < ((t.firsts.getD (s + 1) 0 : Nat) : Int) := by omega
        have efw : IntKind.i32.wrap ((f : Int) + 1) = ((f + 1 : Nat) : Int) := by rw [wi32 _ (by omega) (by omega)]; omega
        have HSET : Hid (rwl t (t.firsts.getD s 0) (rw0 t s) (k + 1) = (rwl t (t.firsts.getD s 0) (rw0 t s) k).set (t.letters.getD f 0) f) := by
          show _ = _
          rw [rwl, ← HF1]
        have HFN : Hid (f + 1 = t.firsts.getD s 0 + (k + 1)) := by show _ = _; omega
        have HFM : Hid (f + 1 ≤ t.firsts.getD (s + 1) 0) := by show _ ≤ _; omega
        have HMS : Hid (t.firsts.getD (s + 1) 0 - (f + 1) < t.firsts.getD (s + 1) 0 - f) := by show _ < _; omega
        revert cl1 hc256 HSET
        generalize t.letters.getD f 0 = c
        intro cl1 hc256 HSET
        have hc0 : (0 : Int) ≤ (c : Int) := by omega
        have hc1 : (c : Int) < 256 := by omega
        have cst : wr.cell? ⟨Wa.heap.size, c, none⟩ = some (.int .i32 (((rwl t (t.firsts.getD s 0) (rw0 t s) k).getD c 0 : Nat) : Int)) := (cell_of_row wr _ c _ _ _ HR.out).trans (ik_get _ _ c (by omega))
        have cfz : wr.frozen? ⟨Wa.heap.size, c, none⟩ = false := frozen_of_row wr _ _ _ _ HR.out
        obtain ⟨W2, hW2⟩ : ∃ W2, wr.setCell ⟨Wa.heap.size, c, none⟩ (.int .i32 (f : Int)) = W2 := ⟨_, rfl⟩
        have HR2 : Hid (W2.heap[Wa.heap.size]? = some (.cells (ik .i32 (rwl t (t.firsts.getD s 0) (rw0 t s) (k + 1))) 121 (0, 0))) := by
          show _ = _
          rw [← hW2, HSET.out, ← ik_set]; exact heap_setCell_same _ _ _ _ _ _ HR.out
        have HZ2 : Hid (W2.heap[w.heap.size]? = some (.cells (ik .i32 (List.replicate 256 0)) 121 (0, 0))) := by
          show _ = _
          rw [← hW2, heap_setCell_other _ _ _ _ (by show w.heap.size ≠ Wa.heap.size; have := HZA.out; omega)]; exact HZ.out
        have HB2 : Hid (Below w.heap.size w W2) := by
          have hz := HB.out
          refine hz.trans ?_
          rw [← hW2]
          exact ⟨rfl, rfl, rfl, by simp [World.setCell], fun j hj => heap_setCell_other _ _ _ _ (by show j ≠ Wa.heap.size; have := HZA.out; omega)⟩
        clear q4 q5 qf f1 f2 f3 b1 b2 HFE1 HF1 hr256 hcl blz hlt hc256 HSB
        revert cst cf1 hflt HFM HMS ew hsi hsi0
        generalize (rwl t (t.firsts.getD s 0) (rw0 t s) k).getD c 0 = y, t.firsts.getD (s + 1) 0 = e1
        generalize s + 1 = s1
        intro cf1 ew hsi0 hsi hflt HFM HMS cst
        go_wp2
        exact ⟨⟨k + 1, f + 1, rfl, HFN, HFM, HR2, HZ2, HB2⟩, by simp only [intOf]; exact HMS.out⟩
      · have hflt : ¬ ((f : Int) < ((t.firsts.getD (s + 1) 0 : Nat) : Int)) := by omega
        have HK : Hid (rwl t (t.firsts.getD s 0) (rw0 t s) k = rwO t s) := by
          show _ = _
          rw [rwO]; congr 1; omega
        have l1 := run_ldR wr Wa.heap.size _ HR.out hr256
        have s1 := run_stR wr w.heap.size _ _ HZ.out (by simp) hr256
        rw [HK.out] at l1 s1
        have hO : (rwO t s).length = 256 := by rw [← HK.out]; exact hr256
        have HO : Hid ((rwO t s).length = 256) := hO
        clear hr256 HK hO
        obtain ⟨W2, hW2⟩ : ∃ W2, wr.setRow w.heap.size (ik .i32 (rwO t s)) = W2 := ⟨_, rfl⟩
        rw [hW2] at s1
        have HRES : Hid (W2.heap[w.heap.size]? = some (.cells (ik .i32 (rwO t s)) 121 (0, 0))) := by
          show _ = _
          rw [← hW2]; exact setRow_heap _ _ _ _ _ _ HZ.out
        have HB2 : Hid (Below w.heap.size w W2) := by rw [← hW2]; exact below_setRow HB.out (Nat.le_refl _) _
        clear hW2 q1 q4 q5 qf f1 f2 f3 b1 b2 HFE1 HF1 HSB
        revert cf1 hflt ew hsi hsi0
        generalize t.firsts.getD (s + 1) 0 = e1
        generalize s + 1 = ss
        intro cf1 ew hsi0 hsi hflt
        go_wp2
        refine bodyPost_ret (v := .agg (ik .i32 (rwO t s))) (results_cell_row rfl _ _ w.heap.size 121 _ (0, 0) _ rfl HRES.out und118 rfl (by rw [size118, ik_size, HO.out])) rfl ⟨rfl, HB2.out⟩
  · have h0i : ¬ ((0 : Int) < (s : Int)) := by omega
    have h0j : (0 : Int) ≤ (s : Int) := by omega
    have HR : Hid (Wb.heap[Wa.heap.size]? = some (.cells (ik .i32 (rw0 t s)) 121 (0, 0))) := by
      show _ = _
      rw [rw0, if_neg h0]; exact HA1.out
    have HZ : Hid (Wb.heap[w.heap.size]? = some (.cells (ik .i32 (List.replicate 256 0)) 121 (0, 0))) := HA0.out
    have HB : Hid (Below w.heap.size w Wb) := HB0.out
    obtain ⟨q1, q3, q4, q5, qf⟩ := CELL.out Wb HB.out
    obtain ⟨f1, f2, f3⟩ := HFF.out
    have cf0 := qf s (by omega)
    have hsi : (s : Int) < (t.firsts.length : Int) := by omega
    clear q1 q4 q5 qf f1 f2 f3
    clear HB3 HR3 HBK HRL HA0 HA1 HB0
    go_wp2_with fail
    clear q3 cf0 hsi h0i hWa hWb
    go_loopw [6] (fun fv wr => ∃ k f : Nat, fv = .int .i32 (f : Int) ∧ Hid (f = t.firsts.getD s 0 + k) ∧ Hid (f ≤ t.firsts.getD (s + 1) 0) ∧ Hid (wr.heap[Wa.heap.size]? = some (.cells (ik .i32 (rwl t (t.firsts.getD s 0) (rw0 t s) k)) 121 (0, 0))) ∧ Hid (wr.heap[w.heap.size]? = some (.cells (ik .i32 (List.replicate 256 0)) 121 (0, 0))) ∧ Hid (Below w.heap.size w wr)) (fun fv _ => t.firsts.getD (s + 1) 0 - (intOf fv).toNat)
    case atStart => exact ⟨0, _, rfl, rfl, HFF.out.2.1, HR, HZ, HB⟩
    case round =>
      clear HR HZ HB
      obtain ⟨k, f, rfl, HF, HFE, HR, HZ, HB⟩ := hrel
      obtain ⟨q1, q3, q4, q5, qf⟩ := CELL.out wr HB.out
      obtain ⟨f1, f2, f3⟩ := HFF.out
      have cf1 := qf (s + 1) (by omega)
      have b1 := HBD.out.f (s + 1)
      have b2 := HBD.out.fl
      have ew : IntKind.i32.wrap ((s : Int) + 1) = ((s + 1 : Nat) : Int) := by
        have := HSB.out
        rw [wi32 _ (by omega) (by omega)]; omega
      have hsi0 : (0 : Int) ≤ ((s + 1 : Nat) : Int) := by omega
      have hsi : ((s + 1 : Nat) : Int) < (t.firsts.length : Int) := by omega
      have hr256 : (rwl t (t.firsts.getD s 0) (rw0 t s) k).length = 256 := (rwl_len _ _ _ k).trans HR0.out
      have HFE1 := HFE.out
      have HF1 := HF.out
      by_cases hlt : f < t.firsts.getD (s + 1) 0
      · obtain ⟨bl, offl, rfl, blz, hcl⟩ := HL3.out (by omega)
        have cl1 : wr.cell? ⟨bl, offl + f, none⟩ = some (.int .u8 ((t.letters.getD f 0 : Nat) : Int)) := (World.cell?_of_block (w := w) (HB.out.block bl blz)).trans (hcl f (by omega))
        have hc256 : t.letters.getD f 0 < 256 := by
          have : t.letters.getD f 0 = t.letters[f] := by simp [List.getD, show f < t.letters.length by omega]
          rw [this]; exact HLB.out _ (List.getElem_mem _)
        have hfl0 : (0 : Int) ≤ (f : Int) := by omega
        have hfl1 : (f : Int) < (t.letters.length : Int) := by omega
        have hflt : (f : Int) < ((t.firsts.getD (s + 1) 0 : Nat) : Int) := by omega
        have efw : IntKind.i32.wrap ((f : Int) + 1) = ((f + 1 : Nat) : Int) := by rw [wi32 _ (by omega) (by omega)]; omega
        have HSET : Hid (rwl t (t.firsts.getD s 0) (rw0 t s) (k + 1) = (rwl t (t.firsts.getD s 0) (rw0 t s) k).set (t.letters.getD f 0) f) := by
          show _ = _
          rw [rwl, ← HF1]
        have HFN : Hid (f + 1 = t.firsts.getD s 0 + (k + 1)) := by show _ = _; omega
        have HFM : Hid (f + 1 ≤ t.firsts.getD (s + 1) 0) := by show _ ≤ _; omega
        have HMS : Hid (t.firsts.getD (s + 1) 0 - (f + 1) < t.firsts.getD (s + 1) 0 - f) := by show _ < _; omega
        revert cl1 hc256 HSET
        generalize t.letters.getD f 0 = c
        intro cl1 hc256 HSET
        have hc0 : (0 : Int) ≤ (c : Int) := by omega
        have hc1 : (c : Int) < 256 := by omega
        have cst : wr.cell? ⟨Wa.heap.size, c, none⟩ = some (.int .i32 (((rwl t (t.firsts.getD s 0) (rw0 t s) k).getD c 0 : Nat) : Int)) := (cell_of_row wr _ c _ _ _ HR.out).trans (ik_get _ _ c (by omega))
        have cfz : wr.frozen? ⟨Wa.heap.size, c, none⟩ = false := frozen_of_row wr _ _ _ _ HR.out
        obtain ⟨W2, hW2⟩ : ∃ W2, wr.setCell ⟨Wa.heap.size, c, none⟩ (.int .i32 (f : Int)) = W2 := ⟨_, rfl⟩
        have HR2 : Hid (W2.heap[Wa.heap.size]? = some (.cells (ik .i32 (rwl t (t.firsts.getD s 0) (rw0 t s) (k + 1))) 121 (0, 0))) := by
          show _ = _
          rw [← hW2, HSET.out, ← ik_set]; exact heap_setCell_same _ _ _ _ _ _ HR.out
        have HZ2 : Hid (W2.heap[w.heap.size]? = some (.cells (ik .i32 (List.replicate 256 0)) 121 (0, 0))) := by
          show _ = _
          rw [← hW2, heap_setCell_other _ _ _ _ (by show w.heap.size ≠ Wa.heap.size; have := HZA.out; omega)]; exact HZ.out
        have HB2 : Hid (Below w.heap.size w W2) := by
          have hz := HB.out
          refine hz.trans ?_
          rw [← hW2]
          exact ⟨rfl, rfl, rfl, by simp [World.setCell], fun j hj => heap_setCell_other _ _ _ _ (by show j ≠ Wa.heap.size; have := HZA.out; omega)⟩
        clear q4 q5 qf f1 f2 f3 b1 b2 HFE1 HF1 hr256 hcl blz hlt hc256 HSB
        revert cst cf1 hflt HFM HMS ew hsi hsi0
        generalize (rwl t (t.firsts.getD s 0) (rw0 t s) k).getD c 0 = y, t.firsts.getD (s + 1) 0 = e1
        generalize s + 1 = s1
        intro cf1 ew hsi0 hsi hflt HFM HMS cst
        go_wp2
        exact ⟨⟨k + 1, f + 1, rfl, HFN, HFM, HR2, HZ2, HB2⟩, by simp only [intOf]; exact HMS.out⟩
      · have hflt : ¬ ((f : Int) < ((t.firsts.getD (s + 1) 0 : Nat) : Int)) := by omega
        have HK : Hid (rwl t (t.firsts.getD s 0) (rw0 t s) k = rwO t s) := by
          show _ = _
          rw [rwO]; congr 1; omega
        have l1 := run_ldR wr Wa.heap.size _ HR.out hr256
        have s1 := run_stR wr w.heap.size _ _ HZ.out (by simp) hr256
        rw [HK.out] at l1 s1
        have hO : (rwO t s).length = 256 := by rw [← HK.out]; exact hr256
        have HO : Hid ((rwO t s).length = 256) := hO
        clear hr256 HK hO
        obtain ⟨W2, hW2⟩ : ∃ W2, wr.setRow w.heap.size (ik .i32 (rwO t s)) = W2 := ⟨_, rfl⟩
        rw [hW2] at s1
        have HRES : Hid (W2.heap[w.heap.size]? = some (.cells (ik .i32 (rwO t s)) 121 (0, 0))) := by
          show _ = _
          rw [← hW2]; exact setRow_heap _ _ _ _ _ _ HZ.out
        have HB2 : Hid (Below w.heap.size w W2) := by rw [← hW2]; exact below_setRow HB.out (Nat.le_refl _) _
        clear hW2 q1 q4 q5 qf f1 f2 f3 b1 b2 HFE1 HF1 HSB
        revert cf1 hflt ew hsi hsi0
        generalize t.firsts.getD (s + 1) 0 = e1
        generalize s + 1 = ss
        intro cf1 ew hsi0 hsi hflt
        go_wp2
        refine bodyPost_ret (v := .agg (ik .i32 (rwO t s))) (results_cell_row rfl _ _ w.heap.size 121 _ (0, 0) _ rfl HRES.out und118 rfl (by rw [size118, ik_size, HO.out])) rfl ⟨rfl, HB2.out⟩
end Go.Proofs.Ytceaklefdahfkab
