/- Graphs: the document's edges by one end. -/
import Derived.Test.YtgedmfcfhdfoeaaGuA
namespace Go.Proofs.Ytgedmfcfhdfoeaa
open Go.RowKit GM
theorem wi1 (a : Nat) (h : a ≤ 4398046511104) : ∃ b, b = a + 1 ∧ wrap64 ((a : Int) + 1) = (b : Int) := ⟨a + 1, rfl, by unfold wrap64; omega⟩
theorem wi2 (a b : Nat) (h : a + b ≤ 4398046511104) : ∃ c, c = a + b ∧ wrap64 ((a : Int) + (b : Int)) = (c : Int) := ⟨a + b, rfl, by unfold wrap64; omega⟩
/-- Numbers by a function, as they lie. -/
structure Fst (w : World) (m : Nat) (F : Nat → Nat) (W : World) : Prop where
  bel : Below w.heap.size w W
  row : W.heap[w.heap.size]? = some (.cells (ik ((List.range m).map F)) 3 (0, 0))
theorem Fst.congr {w : World} {m : Nat} {F G : Nat → Nat} {W : World} (h : Fst w m F W) (hf : ∀ j, j < m → F j = G j) : Fst w m G W :=
  ⟨h.bel, by rw [← List.map_congr_left (f := F) (g := G) (l := List.range m) (fun j hj => hf j (List.mem_range.1 hj))]; exact h.row⟩
theorem Fst.get {w : World} {m : Nat} {F : Nat → Nat} {W : World} (h : Fst w m F W) (j : Nat) (hj : j < m) : W.cell? ⟨w.heap.size, j, none⟩ = some (.int .i64 ((F j : Nat) : Int)) ∧ W.frozen? ⟨w.heap.size, j, none⟩ = false := by
  refine ⟨?_, frozen_of_row _ _ _ _ _ h.row⟩
  rw [cell_of_row _ _ _ _ _ _ h.row, ik_get _ _ (by simpa using hj)]
  simp [List.getD, hj]
theorem Fst.set {w : World} {m : Nat} {F G : Nat → Nat} {W : World} (h : Fst w m F W) (j x : Nat) (hj : G j = x) (ho : ∀ i, i ≠ j → G i = F i) : Fst w m G (W.setCell ⟨w.heap.size, j, none⟩ (.int .i64 (x : Int))) := by
  refine ⟨⟨h.bel.os, h.bel.tape, h.bel.output, by simpa [World.setCell] using h.bel.size, fun i hi => (heap_setCell_other _ _ _ _ (by show i ≠ w.heap.size; omega)).trans (h.bel.block i hi)⟩, ?_⟩
  rw [heap_setCell_same _ _ _ _ _ _ h.row, ik_set, map_set m F G j x hj ho]
def f1 (key : Nat × Nat → Nat) (E : List (Nat × Nat)) (i j : Nat) : Nat := if j = 0 then 0 else cnt key (j - 1) (E.take i)
def f2 (key : Nat × Nat → Nat) (E : List (Nat × Nat)) (i j : Nat) : Nat := if j ≤ i then stt key E j else cnt key (j - 1) E
def f3 (key : Nat × Nat → Nat) (E : List (Nat × Nat)) (i j : Nat) : Nat := stt key E j + cnt key j (E.take i)
theorem f1_zero (key : Nat × Nat → Nat) (E : List (Nat × Nat)) (j : Nat) : f1 key E 0 j = 0 := by
  unfold f1
  split
  · rfl
  · simp [cnt]
theorem f1_end (key : Nat × Nat → Nat) (E : List (Nat × Nat)) (j : Nat) : f1 key E E.length j = f2 key E 0 j := by
  unfold f1 f2
  rw [List.take_length]
  by_cases h : j = 0
  · rw [if_pos h, if_pos (by omega), h]; rfl
  · rw [if_neg h, if_neg (by omega)]
theorem f2_end (key : Nat × Nat → Nat) (E : List (Nat × Nat)) (n j : Nat) (h : j < n + 1) : f2 key E n j = f3 key E 0 j := by
  unfold f2 f3
  rw [if_pos (by omega)]
  simp [cnt]
theorem stt_le (key : Nat × Nat → Nat) : ∀ (E : List (Nat × Nat)) (n : Nat), stt key E n ≤ E.length
  | [], n => by
    have : ∀ m, stt key [] m = 0 := by intro m; induction m with | zero => rfl | succ m ih => rw [stt, ih]; rfl
    rw [this]; exact Nat.zero_le _
  | e :: E, n => by
    rw [stt_cons, List.length_cons]
    have := stt_le key E n
    split <;> omega
theorem ec_set (l : List (Int × Int)) : ∀ (p : Nat) (x : Int × Int), ec (l.set p x) = ((ec l).set (p * 2) (.int .i64 x.1)).set (p * 2 + 1) (.int .i64 x.2) := by
  induction l with
  | nil => intro p x; simp [ec]
  | cons y r ih =>
    intro p x
    have e : ∀ (z : Int × Int) (s : List (Int × Int)), ec (z :: s) = .int .i64 z.1 :: .int .i64 z.2 :: ec s := fun _ _ => rfl
    cases p with
    | zero => rw [List.set_cons_zero, e, e]; rfl
    | succ p =>
      rw [List.set_cons_succ, e, e, ih p x, show (p + 1) * 2 = p * 2 + 1 + 1 by omega, show p * 2 + 1 + 1 + 1 = (p * 2 + 1) + 1 + 1 by omega]
      simp only [List.set_cons_succ]
theorem zE_set (E : List (Nat × Nat)) (p x y : Nat) : zE (E.set p (x, y)) = (zE E).set p ((x : Int), (y : Int)) := by simp [zE, List.map_set]
/-- The lists of the third loop. -/
structure O3 (w : World) (n1 n gO : Nat) (key : Nat × Nat → Nat) (E : List (Nat × Nat)) (i j : Nat) (W : World) : Prop where
  fs : Fst w n1 (f3 key E i) W
  out : W.heap[gO]? = some (.cells (ec (zE (fil n key E j))).toArray 52 (0, 0))
  lt : w.heap.size < gO
theorem O3.old {w : World} {n1 n gO : Nat} {key : Nat × Nat → Nat} {E : List (Nat × Nat)} {i j : Nat} {W : World} (h : O3 w n1 n gO key E i j W) (p : Nat) (hp : p < (fil n key E j).length) : ∃ a b, W.cell? ⟨gO, p * 2, none⟩ = some (.int .i64 a) ∧ W.cell? ⟨gO, p * 2 + 1, none⟩ = some (.int .i64 b) ∧ W.frozen? ⟨gO, p * 2, none⟩ = false ∧ W.frozen? ⟨gO, p * 2 + 1, none⟩ = false := by
  have := ec_get (zE (fil n key E j)) p (by rw [zE_len]; exact hp)
  refine ⟨((zE (fil n key E j)).getD p (0, 0)).1, ((zE (fil n key E j)).getD p (0, 0)).2, ?_, ?_, frozen_of_row _ _ _ _ _ h.out, frozen_of_row _ _ _ _ _ h.out⟩
  · rw [cell_of_row _ _ _ _ _ _ h.out]; simpa using this.1
  · rw [cell_of_row _ _ _ _ _ _ h.out]; simpa using this.2
theorem O3.store {w : World} {n1 n gO : Nat} {key : Nat × Nat → Nat} {E : List (Nat × Nat)} {i : Nat} {W : World} (hE : ∀ e ∈ E, key e < n) (h : O3 w n1 n gO key E i i W) (x y : Nat) (hxy : E[i]? = some (x, y)) (p : Nat) (hp : p = f3 key E i (key (x, y))) :
    O3 w n1 n gO key E i (i + 1) ((W.setCell ⟨gO, p * 2, none⟩ (.int .i64 (x : Int))).setCell ⟨gO, p * 2 + 1, none⟩ (.int .i64 (y : Int))).drew := by
  have hne : ∀ k, k ≠ gO → ((W.setCell ⟨gO, p * 2, none⟩ (.int .i64 (x : Int))).setCell ⟨gO, p * 2 + 1, none⟩ (.int .i64 (y : Int))).heap[k]? = W.heap[k]? := fun k hk => (heap_setCell_other _ _ _ _ hk).trans (heap_setCell_other _ _ _ _ hk)
  have lt := h.lt
  refine ⟨⟨⟨h.fs.bel.os, h.fs.bel.tape, h.fs.bel.output, by simpa [World.setCell] using h.fs.bel.size, fun j hj => (hne j (by omega)).trans (h.fs.bel.block j hj)⟩, (hne _ (by omega)).trans h.fs.row⟩, ?_, lt⟩
  have r1 := heap_setCell_same _ _ (p * 2) _ _ (.int .i64 (x : Int)) h.out
  have r2 := heap_setCell_same _ _ (p * 2 + 1) _ _ (.int .i64 (y : Int)) r1
  show ((W.setCell ⟨gO, p * 2, none⟩ (.int .i64 (x : Int))).setCell ⟨gO, p * 2 + 1, none⟩ (.int .i64 (y : Int))).heap[gO]? = _
  rw [r2, ← fil_step n key E hE i (x, y) hxy, zE_set, ec_set]
  congr 2
  rw [hp]
  unfold f3
  simp
theorem O3.inc {w : World} {n1 n gO : Nat} {key : Nat × Nat → Nat} {E : List (Nat × Nat)} {i j : Nat} {W : World} (h : O3 w n1 n gO key E i j W) (x y : Nat) (hxy : E[i]? = some (x, y)) (p1 : Nat) (hp : p1 = f3 key E i (key (x, y)) + 1) :
    O3 w n1 n gO key E (i + 1) j (W.setCell ⟨w.heap.size, key (x, y), none⟩ (.int .i64 (p1 : Int))) := by
  have lt := h.lt
  refine ⟨h.fs.set _ _ ?_ fun q hq => ?_, (heap_setCell_other _ _ _ _ (by show gO ≠ w.heap.size; omega)).trans h.out, lt⟩
  · rw [hp]
    unfold f3
    rw [cnt_take key _ E i (x, y) hxy, if_pos rfl]
    omega
  · unfold f3
    rw [cnt_take key q E i (x, y) hxy, if_neg (fun e => hq e.symm)]
    rfl
attribute [local go_sem ↓] toMkI toMkE
set_option maxRecDepth 100000 in
set_option maxHeartbeats 2000000 in
theorem sorted_any (n : Nat) (hn : n ≤ 8192) (en : Nat) (hen : en < 2) (key : Nat × Nat → Nat) (hkey : ∀ x y, key (x, y) = if en = 0 then x else y) (E : List (Nat × Nat)) (hE : ∀ e ∈ E, key e < n) (hl : E.length ≤ 1073741824) (v : Value) (w : World) (hv : El v (zE E) w) :
    Calls Try.prog 68 #[.int .i64 (n : Int), v, .int .i64 (en : Int)] w fun e w' => ∃ u, e = .returned u ∧ El u (zE (bkt n key E)) w' ∧ Below w.heap.size w w' ∧ ∀ q, u.ownBlock = some q → w.heap.size ≤ q := by
  obtain ⟨o, c, rfl, -, ho⟩ := hv.form
  rw [zE_len] at ho ⊢
  obtain ⟨W1, s1, r1, b1⟩ := run_mkI w (n + 1) (by omega)
  have HI : Hid (Fst w (n + 1) (f1 key E 0) W1) := by
    have e : List.replicate (n + 1) 0 = (List.range (n + 1)).map (fun _ => 0) := by simp [List.map_const']
    rw [e] at r1
    exact (Fst.mk b1 r1).congr fun j _ => (f1_zero key E j).symm
  have HN : Hid (n ≤ 8192 ∧ E.length ≤ 1073741824 ∧ en < 2) := ⟨hn, hl, hen⟩
  have HE : Hid (∀ e ∈ E, key e < n) := hE
  have HO : Hid (∀ k, k < E.length → ∀ x y, E[k]? = some (x, y) → ∃ b off, o = some ⟨b, off, none⟩ ∧ b < w.heap.size ∧ w.cell? ⟨b, off + k * 2, none⟩ = some (.int .i64 (x : Int)) ∧ w.cell? ⟨b, off + k * 2 + 1, none⟩ = some (.int .i64 (y : Int)) ∧ w.cell? ⟨b, off + k * 2 + en, none⟩ = some (.int .i64 ((key (x, y) : Nat) : Int))) := fun k hk x y hxy => by
    obtain ⟨b, off, h1, h2, h3⟩ := ho (by omega)
    have c1 := (h3 k hk).1
    have c2 := (h3 k hk).2
    rw [zE_get E k x y hxy] at c1 c2
    refine ⟨b, off, h1, h2, c1, c2, ?_⟩
    rw [hkey x y]
    have : en = 0 ∨ en = 1 := by omega
    rcases this with rfl | rfl
    · exact c1
    · exact c2
  obtain ⟨n1, hn1, w2⟩ := wi1 n (by omega)
  rw [← hn1] at s1 HI
  have HN1 : Hid (n1 = n + 1) := hn1
  clear r1 b1 hE hn hl hv ho hkey hn1
  have i0 : (0 : Int) ≤ (en : Int) := by omega
  have i1 : (en : Int) < 2 := by omega
  clear hen
  go_enter Try.func68, Try.ntmps68
  go_wp2_with fail
  go_loopw [8] (fun i wr => ∃ k : Nat, i = .int .i64 (k : Int) ∧ k ≤ E.length ∧ Hid (Fst w n1 (f1 key E k) wr)) (fun i _ => E.length - (intOf i).toNat)
  case atStart => exact ⟨0, rfl, Nat.zero_le _, HI⟩
  case round =>
    clear HI s1 w2
    obtain ⟨k, rfl, hk, HI⟩ := hrel
    by_cases hlt : k < E.length
    · have hk1 : (k : Int) < (E.length : Int) := by omega
      have hk0 : (0 : Int) ≤ (k : Int) := by omega
      obtain ⟨x, y, hxy⟩ : ∃ x y, E[k]? = some (x, y) := ⟨_, _, List.getElem?_eq_getElem hlt⟩
      obtain ⟨b, off, rfl, hb, -, -, hck⟩ := HO.out k hlt x y hxy
      have ck := (World.cell?_of_block (w := w) (HI.out.bel.block b hb)).trans hck
      obtain ⟨kv, hkv⟩ : ∃ kv, kv = key (x, y) := ⟨_, rfl⟩
      rw [← hkv] at ck
      have hkn : kv < n := by rw [hkv]; exact HE.out _ (List.mem_of_getElem? hxy)
      obtain ⟨k1, hk1e, wk⟩ := wi1 kv (by have := HN.out.1; omega)
      have g0 := HI.out.get k1 (by have := HN1.out; omega)
      obtain ⟨a, ha⟩ : ∃ a, a = f1 key E k k1 := ⟨_, rfl⟩
      rw [← ha] at g0
      have haL : a ≤ 1073741824 := by
        rw [ha]; unfold f1
        have h1 := cnt_len key (k1 - 1) (E.take k)
        rw [List.length_take] at h1
        have := HN.out.2.1
        split <;> omega
      obtain ⟨a1, ha1, wa⟩ := wi1 a (by omega)
      obtain ⟨kk, hkk⟩ : ∃ kk, kk = k + 1 := ⟨_, rfl⟩
      have q0 : (0 : Int) ≤ (k1 : Int) := by omega
      have q1 : (k1 : Int) < (n1 : Int) := by have := HN1.out; omega
      have cg := g0.1
      have fg := g0.2
      have HNEW : Hid (Fst w n1 (f1 key E kk) (wr.setCell ⟨w.heap.size, k1, none⟩ (.int .i64 (a1 : Int)))) := by
        refine HI.out.set k1 a1 ?_ fun i hi => ?_
        · rw [ha1, ha, hkk, hk1e]
          unfold f1
          rw [if_neg (by omega), if_neg (by omega), Nat.add_sub_cancel, cnt_take key kv E k (x, y) hxy, if_pos hkv.symm]
        · rw [hkk]
          unfold f1
          by_cases h0 : i = 0
          · rw [if_pos h0, if_pos h0]
          · rw [if_neg h0, if_neg h0, cnt_take key (i - 1) E k (x, y) hxy, if_neg (by rw [← hkv]; omega)]
            rfl
      have HJ : Hid (k < E.length ∧ kk = k + 1) := ⟨hlt, hkk⟩
      clear g0 ha haL ha1 hkk hk1e hkn hkv hck hxy hk hlt HI hb
      go_upto_region 4 with fail
      have hk2 : (k : Int) + 1 < 9223372036854775808 := by have := HN.out.2.1; have := HJ.out.1; omega
      clear wk wa q0 q1 cg fg ck hk1 hk0
      go_wp2
      go_roundw
      case rel => exact ⟨k + 1, rfl, HJ.out.1, by have := HNEW.out; rw [HJ.out.2] at this; exact this⟩
      case measure => have := HJ.out; simp only [intOf]; omega
    · have hk1 : ¬ ((k : Int) < (E.length : Int)) := by omega
      have HI2 : Hid (Fst w n1 (f2 key E 0) wr) := by
        have := HI.out
        rw [show k = E.length by omega] at this
        exact this.congr fun j _ => f1_end key E j
      clear HI hk
      go_wp2_with fail
      go_loopw [9] (fun i wr => ∃ k : Nat, i = .int .i64 (k : Int) ∧ k ≤ n ∧ Hid (Fst w n1 (f2 key E k) wr)) (fun i _ => n - (intOf i).toNat)
      case atStart => exact ⟨0, rfl, Nat.zero_le _, HI2⟩
      case round =>
        clear HI2 hk1
        obtain ⟨k, rfl, hk, HI⟩ := hrel
        by_cases hlt : k < n
        · have hk1 : (k : Int) < (n : Int) := by omega
          have hk0 : (0 : Int) ≤ (k : Int) := by omega
          obtain ⟨kk, hkk, wkk⟩ := wi1 k (by have := HN.out.1; omega)
          have g0 := HI.out.get k (by have := HN1.out; omega)
          have g1 := HI.out.get kk (by have := HN1.out; omega)
          obtain ⟨a, ha⟩ : ∃ a, a = f2 key E k kk := ⟨_, rfl⟩
          obtain ⟨b, hb⟩ : ∃ b, b = f2 key E k k := ⟨_, rfl⟩
          have ha' : a = cnt key k E := by rw [ha, hkk]; unfold f2; rw [if_neg (by omega), Nat.add_sub_cancel]
          have hb' : b = stt key E k := by rw [hb]; unfold f2; rw [if_pos (Nat.le_refl _)]
          rw [← ha] at g1
          rw [← hb] at g0
          obtain ⟨s, hs, ws⟩ := wi2 a b (by have h1 := cnt_len key k E; have h2 := stt_le key E k; have := HN.out.2.1; omega)
          have q0 : (0 : Int) ≤ (kk : Int) := by omega
          have q1 : (kk : Int) < (n1 : Int) := by have := HN1.out; omega
          have q2 : (k : Int) < (n1 : Int) := by have := HN1.out; omega
          have cg0 := g0.1
          have cg1 := g1.1
          have fg1 := g1.2
          have HNEW : Hid (Fst w n1 (f2 key E kk) (wr.setCell ⟨w.heap.size, kk, none⟩ (.int .i64 (s : Int)))) := by
            refine HI.out.set kk s ?_ fun i hi => ?_
            · rw [hs, ha', hb', hkk]
              unfold f2
              rw [if_pos (Nat.le_refl _), stt]
              omega
            · rw [hkk]
              unfold f2
              by_cases h0 : i ≤ k
              · rw [if_pos h0, if_pos (by omega)]
              · rw [if_neg h0, if_neg (by omega)]
          have HJ : Hid (k < n ∧ kk = k + 1) := ⟨hlt, hkk⟩
          have HNEW0 : Hid (Fst w n1 (f2 key E kk) (wr.setCell ⟨w.heap.size, kk, none⟩ (.int .i64 (s : Int))).drew) := ⟨⟨HNEW.out.bel.os, HNEW.out.bel.tape, HNEW.out.bel.output, HNEW.out.bel.size, HNEW.out.bel.block⟩, HNEW.out.row⟩
          have HNEW2 : Hid (Fst w n1 (f2 key E (k + 1)) (wr.setCell ⟨w.heap.size, kk, none⟩ (.int .i64 (s : Int))).drew) := by
            have e : f2 key E kk = f2 key E (k + 1) := by rw [hkk]
            have := HNEW0.out
            rw [e] at this
            exact this
          clear g0 g1 ha ha' hb hb' hs hkk hk hlt HI HNEW0 HNEW
          go_wp2_with fail
          go_region
          have hk2 : (k : Int) + 1 < 9223372036854775808 := by have := HN.out.1; have := HJ.out.1; omega
          clear wkk ws q0 q1 q2 cg0 cg1 fg1 hk1 hk0
          go_wp2
          go_roundw
          case rel => exact ⟨k + 1, rfl, HJ.out.1, HNEW2⟩
          case measure => have := HJ.out; simp only [intOf]; omega
        · have hk1 : ¬ ((k : Int) < (n : Int)) := by omega
          have HI3 : Hid (Fst w n1 (f3 key E 0) wr) := by
            have := HI.out
            rw [show k = n by omega] at this
            exact this.congr fun j hj => f2_end key E n j (by have := HN1.out; omega)
          clear HI hk
          obtain ⟨W3, s3, r3, b3⟩ := run_mkE wr E.length (by have := HN.out.2.1; omega)
          obtain ⟨gO, hgO⟩ : ∃ gO, wr.heap.size = gO := ⟨_, rfl⟩
          rw [hgO] at s3 r3
          have HO3 : Hid (O3 w n1 n gO key E 0 0 W3) := by
            have lt := (Array.getElem?_eq_some_iff.1 HI3.out.row).1
            refine ⟨⟨HI3.out.bel.trans (b3.mono HI3.out.bel.size), (b3.block _ lt).trans HI3.out.row⟩, ?_, by rw [← hgO]; exact lt⟩
            rw [r3, fil_zero n key E HE.out]
            simp [zE]
          have HGO : Hid (w.heap.size ≤ gO) := by show _ ≤ _; have := HO3.out.lt; omega
          clear r3 b3 HI3 hgO
          go_wp2_with fail
          go_loopw [11] (fun i wr => ∃ k : Nat, i = .int .i64 (k : Int) ∧ k ≤ E.length ∧ Hid (O3 w n1 n gO key E k k wr)) (fun i _ => E.length - (intOf i).toNat)
          case atStart => exact ⟨0, rfl, Nat.zero_le _, HO3⟩
          case round =>
            clear HO3 s3 hk1
            obtain ⟨k, rfl, hk, HI⟩ := hrel
            by_cases hlt : k < E.length
            · have hk1 : (k : Int) < (E.length : Int) := by omega
              have hk0 : (0 : Int) ≤ (k : Int) := by omega
              obtain ⟨x, y, hxy⟩ : ∃ x y, E[k]? = some (x, y) := ⟨_, _, List.getElem?_eq_getElem hlt⟩
              obtain ⟨b, off, rfl, hb, hc1, hc2, hck⟩ := HO.out k hlt x y hxy
              have ck := (World.cell?_of_block (w := w) (HI.out.fs.bel.block b hb)).trans hck
              have c1 := (World.cell?_of_block (w := w) (HI.out.fs.bel.block b hb)).trans hc1
              have c2 := (World.cell?_of_block (w := w) (HI.out.fs.bel.block b hb)).trans hc2
              obtain ⟨kv, hkv⟩ : ∃ kv, kv = key (x, y) := ⟨_, rfl⟩
              rw [← hkv] at ck
              have hkn : kv < n := by rw [hkv]; exact HE.out _ (List.mem_of_getElem? hxy)
              have g0 := HI.out.fs.get kv (by have := HN1.out; omega)
              obtain ⟨p, hp⟩ : ∃ p, p = f3 key E k kv := ⟨_, rfl⟩
              rw [← hp] at g0
              have hpL : p < E.length := by rw [hp, hkv]; exact stt_lt key n E HE.out k (x, y) hxy
              obtain ⟨old1, old2, d1, d2, fd1, fd2⟩ := HI.out.old p (by rw [fil_len n key E HE.out]; exact hpL)
              obtain ⟨p1, hp1, wp1⟩ := wi1 p (by have := HN.out.2.1; omega)
              have S1 := HI.out.store HE.out x y hxy p (by rw [hp, hkv])
              obtain ⟨WB, hWB⟩ : ∃ WB, ((wr.setCell ⟨gO, p * 2, none⟩ (.int .i64 (x : Int))).setCell ⟨gO, p * 2 + 1, none⟩ (.int .i64 (y : Int))).drew = WB := ⟨_, rfl⟩
              rw [hWB] at S1
              have S2 := S1.inc x y hxy p1 (by rw [hp1, hp, hkv])
              rw [← hkv] at S2
              have gB := S1.fs.get kv (by have := HN1.out; omega)
              rw [← hp] at gB
              have cB := gB.1
              have fB := gB.2
              have cg := g0.1
              have q0 : (0 : Int) ≤ (kv : Int) := Int.natCast_nonneg kv
              have q1 : (kv : Int) < (n1 : Int) := Int.ofNat_lt.2 (by have := HN1.out; omega)
              have q2 : (0 : Int) ≤ (p : Int) := Int.natCast_nonneg p
              have q3 : (p : Int) < (E.length : Int) := Int.ofNat_lt.2 hpL
              have HNEW : Hid (O3 w n1 n gO key E (k + 1) (k + 1) (WB.setCell ⟨w.heap.size, kv, none⟩ (.int .i64 (p1 : Int)))) := S2
              have HWB : Hid (((wr.setCell ⟨gO, p * 2, none⟩ (.int .i64 (x : Int))).setCell ⟨gO, p * 2 + 1, none⟩ (.int .i64 (y : Int))).drew = WB) := hWB
              have HJ : Hid (k < E.length) := hlt
              clear S1 S2 gB g0 hp hpL hp1 hkn hkv hck hc1 hc2 hxy hk hlt HI hb hWB
              go_wp2_with fail
              go_region
              rw [HWB.out]
              clear c1 c2 ck cg d1 d2 fd1 fd2 hk1 hk0 q2 q3
              go_upto_region 13 with fail
              have hk2 : (k : Int) + 1 < 9223372036854775808 := by have := HN.out.2.1; have := HJ.out; omega
              clear cB fB q0 q1 wp1
              go_wp2
              go_roundw
              case rel => exact ⟨k + 1, rfl, HJ.out, HNEW⟩
              case measure => have := HJ.out; simp only [intOf]; omega
            · have hk1 : ¬ ((k : Int) < (E.length : Int)) := by omega
              have HFIN : Hid (El (.slice (some ⟨gO, 0, none⟩) E.length E.length) (zE (bkt n key E)) wr ∧ Below w.heap.size w wr) := by
                have h := HI.out
                rw [show k = E.length by omega] at h
                have ho := h.out
                rw [fil_end] at ho
                have hbl : (bkt n key E).length = E.length := by rw [← fil_end, fil_len n key E HE.out]
                refine ⟨.inr ⟨gO, 0, E.length, by rw [zE_len, hbl], by rw [zE_len, hbl]; exact Nat.le_refl _, by have := HN.out.2.1; unfold maxLen; omega, (Array.getElem?_eq_some_iff.1 ho).1, fun j hj => ?_⟩, h.fs.bel⟩
                have := ec_get _ j hj
                rw [Nat.zero_add, cell_of_row _ _ _ _ _ _ ho, cell_of_row _ _ _ _ _ _ ho]
                simpa using this
              clear HI hk
              go_wp2
              go_ret
              exact ⟨_, rfl, HFIN.out.1, HFIN.out.2, fun q hq => by cases hq; exact HGO.out⟩
end Go.Proofs.Ytgedmfcfhdfoeaa
