/- The sieve's scanner: Feed. -/
import Derived.Test.YtceaklefdahfkabSv2
namespace Go.Proofs.Ytceaklefdahfkab
open Go.RowKit
/-- One byte more: the state, and what was found. -/
def stp (t : Tbl) (s c : Nat) : Nat × Option Nat :=
  if t.firsts.length - 1 ≤ nx t c (s + 1) s then (t.backs.getD (nx t c (s + 1) s) 0, some (t.values.getD (nx t c (s + 1) s - (t.firsts.length - 1)) 0)) else (nx t c (s + 1) s, none)
/-- Bytes taken: the state behind them. -/
def rn (t : Tbl) : Nat → List Nat → Nat
  | s, [] => s
  | s, c :: l => rn t (stp t s c).1 l
/-- Bytes taken from place i on: the hits. -/
def fnd (t : Tbl) : Nat → Nat → List Nat → List (Int × Int)
  | _, _, [] => []
  | s, i, c :: l => (match (stp t s c).2 with | some x => [((i : Int) + 1 - (t.width : Int), (x : Int))] | none => []) ++ fnd t (stp t s c).1 (i + 1) l
theorem rn_app (t : Tbl) : ∀ (s : Nat) (a b : List Nat), rn t s (a ++ b) = rn t (rn t s a) b
  | _, [], _ => rfl
  | s, c :: a, b => rn_app t (stp t s c).1 a b
theorem fnd_app (t : Tbl) : ∀ (s i : Nat) (a b : List Nat), fnd t s i (a ++ b) = fnd t s i a ++ fnd t (rn t s a) (i + a.length) b
  | _, _, [], _ => by simp [fnd, rn]
  | s, i, c :: a, b => by
    rw [List.cons_append, fnd, fnd, rn, fnd_app t (stp t s c).1 (i + 1) a b, List.append_assoc, List.length_cons, show i + 1 + a.length = i + (a.length + 1) by omega]
theorem fnd_len (t : Tbl) : ∀ (s i : Nat) (l : List Nat), (fnd t s i l).length ≤ l.length
  | _, _, [] => Nat.le_refl _
  | s, i, c :: l => by
    have ih := fnd_len t (stp t s c).1 (i + 1) l
    rw [fnd, List.length_append, List.length_cons]
    cases (stp t s c).2 <;> simp <;> omega
theorem take_snoc {l : List Nat} {k : Nat} (h : k < l.length) : l.take (k + 1) = l.take k ++ [l.getD k 0] := by
  rw [List.take_succ_eq_append_getElem h]
  simp [List.getD, h]
/-- The states that a scanner passes through. -/
structure Gd (t : Tbl) (G : Nat → Prop) : Prop where
  le : ∀ s, G s → s ≤ 1000000
  nw : ∀ s, G s → ∀ s', t.rows.length ≤ s' → s' ≤ s → Nw t s'
  dp : ∀ s, G s → s < t.depths.length
  n1 : ∀ s c, G s → c < 256 → nx t c (s + 1) s ≤ 1000000
  hit : ∀ s c, G s → c < 256 → t.firsts.length - 1 ≤ nx t c (s + 1) s → nx t c (s + 1) s - (t.firsts.length - 1) < t.values.length ∧ nx t c (s + 1) s < t.backs.length ∧ G (t.backs.getD (nx t c (s + 1) s) 0)
  go : ∀ s c, G s → c < 256 → ¬ t.firsts.length - 1 ≤ nx t c (s + 1) s → G (nx t c (s + 1) s)
/-- A table that works. -/
structure Wk (t : Tbl) : Prop where
  bd : Bd t
  lb : Byt t.letters
  r0 : 0 < t.rows.length
  l0 : 0 < t.letters.length
  f1 : 1 ≤ t.firsts.length
  wd : t.width ≤ 64
  db : Byt t.depths
theorem stp_good {t : Tbl} {G : Nat → Prop} (h : Gd t G) {s c : Nat} (hs : G s) (hc : c < 256) : G (stp t s c).1 := by
  unfold stp
  by_cases h1 : t.firsts.length - 1 ≤ nx t c (s + 1) s
  · rw [if_pos h1]; exact (h.hit s c hs hc h1).2.2
  · rw [if_neg h1]; exact h.go s c hs hc h1
/-- A hit appended. -/
theorem run_app1h (w : World) (base n ty : Nat) (v : Value) (l : List (Int × Int)) (x y : Int) (hown : w.ownsRow base 39 2 v n (hc l)) (hb : n ≤ 1099511627776) (hbase : base ≤ w.heap.size) :
    ∃ v' w', (appH ty #[v, .slice (some ⟨w.heap.size, 0, none⟩) 1 1]).run Try.prog (w.alloc (.cells #[.int .i64 x, .int .i64 y] 39)) = .ok v' w' ∧ w'.ownsRow base 39 2 v' (n + 1) (hc (l ++ [(x, y)])) ∧ (w.alloc (.cells #[.int .i64 x, .int .i64 y] 39)).grownBy w' v.ownBlock := by
  obtain ⟨i0, hi0, hz0, hz1, hz2⟩ := info_parts info40
  obtain ⟨v', w', hr, ho, hg, _⟩ := run_append_own_at (P := Try.prog) (w.alloc (.cells #[.int .i64 x, .int .i64 y] 39)) base 31 ty 39 i0 _ 2 16 Try.underlying31 hi0 hz0 hz1 hz2 rfl (by omega) v n _ (hown.alloc _) ⟨w.heap.size, 0, none⟩ 1 1 [.int .i64 x, .int .i64 y] rfl
    (World.news_of_block (cs := #[.int .i64 x, .int .i64 y]) (t := 39) (fr := (0, 0)) (heap_alloc_new w _)) (fun u hu => by simp at hu; rcases hu with rfl | rfl <;> rfl) (by unfold maxLen; omega) (by omega) (by simp; omega)
  refine ⟨v', w', hr, ?_, hg⟩
  have : hc (l ++ [(x, y)]) = hc l ++ [.int .i64 x, .int .i64 y] := by simp [hc]
  rw [this]; exact ho
theorem own_size {w : World} {B e n s : Nat} {v : Value} {xs : List Value} (h : w.ownsRow B e s v n xs) : ∃ o c, v = .slice o n c := by
  obtain ⟨_, ⟨rfl, rfl⟩ | ⟨_, _, _, rfl, _⟩⟩ := h <;> exact ⟨_, _, rfl⟩
theorem own_keep2 {w w' : World} {B e n s : Nat} {v : Value} {xs : List Value} (h : w.ownsRow B e s v n xs) (hb : ∀ k, v.ownBlock = some k → w'.heap[k]? = w.heap[k]?) : w'.ownsRow B e s v n xs := by
  obtain ⟨h0, h1 | ⟨g, cap, cur, rfl, h2, h3, h4⟩⟩ := h
  · exact ⟨h0, .inl h1⟩
  · exact ⟨h0, .inr ⟨g, cap, cur, rfl, h2, (hb g rfl).trans h3, h4⟩⟩
/-- The table, as it lies, below a block. -/
def TabK (K g : Nat) (t : Tbl) (w : World) : Prop := g < K ∧ ∃ vl vd vf vb vr vv, w.heap[g]? = some (.cells #[.int .i64 (t.width : Int), vl, vd, vf, vb, vr, vv] 100 (0, 0)) ∧
  (Si .u8 vl t.letters w ∧ Si .u8 vd t.depths w ∧ Si .i32 vf t.firsts w ∧ Si .i32 vb t.backs w ∧ Sr vr t.rows w ∧ Si .i64 vv t.values w) ∧
  ∀ v, v = vl ∨ v = vd ∨ v = vf ∨ v = vb ∨ v = vr ∨ v = vv → ∀ k, v.ownBlock = some k → k < K
theorem TabK.tab {K g : Nat} {t : Tbl} {w : World} (h : TabK K g t w) : Tab g t w := by
  obtain ⟨_, vl, vd, vf, vb, vr, vv, h0, h1, _⟩ := h
  exact ⟨vl, vd, vf, vb, vr, vv, h0, h1⟩
theorem TabK.keep {K g : Nat} {t : Tbl} {w w' : World} (h : TabK K g t w) (hs : w.heap.size ≤ w'.heap.size) (hb : ∀ j, j < K → j < w.heap.size → w'.heap[j]? = w.heap[j]?) : TabK K g t w' := by
  obtain ⟨hg, vl, vd, vf, vb, vr, vv, h0, ⟨h1, h2, h3, h4, h5, h6⟩, h7⟩ := h
  have q : ∀ v, v = vl ∨ v = vd ∨ v = vf ∨ v = vb ∨ v = vr ∨ v = vv → ∀ k, v.ownBlock = some k → k < w.heap.size → w'.heap[k]? = w.heap[k]? := fun v hv k hk hz => hb k (h7 v hv k hk) hz
  exact ⟨hg, vl, vd, vf, vb, vr, vv, (hb g hg (Array.getElem?_eq_some_iff.1 h0).1).trans h0, ⟨h1.keep hs (q vl (by simp)), h2.keep hs (q vd (by simp)), h3.keep hs (q vf (by simp)), h4.keep hs (q vb (by simp)), h5.keep hs (q vr (by simp)), h6.keep hs (q vv (by simp))⟩, h7⟩
theorem TabK.mono {K K' g : Nat} {t : Tbl} {w : World} (h : TabK K g t w) (hk : K ≤ K') : TabK K' g t w := by
  obtain ⟨hg, vl, vd, vf, vb, vr, vv, h0, h1, h7⟩ := h
  exact ⟨by omega, vl, vd, vf, vb, vr, vv, h0, h1, fun v hv k hk' => by have := h7 v hv k hk'; omega⟩
/-- A scanner, as it lies. -/
def Scn (gs gt s n h : Nat) (w : World) : Prop := w.heap[gs]? = some (.cells #[.pointer (some ⟨gt, 0, none⟩), .int .i32 (s : Int), .int .i64 (n : Int), .int .i64 (h : Int)] 90 (0, 0))
attribute [local go_sem ↓] toApp
set_option maxRecDepth 100000 in
set_option maxHeartbeats 3200000 in
theorem feed_any (gs gt : Nat) (t : Tbl) (hw : Wk t) (G : Nat → Prop) (hG : Gd t G) (s0 n0 h0 : Nat) (hs0 : G s0) (hn0 : n0 ≤ 1152921504606846976) (p : List Nat) (hpb : Byt p) (hpl : p.length ≤ 1099511627776) (pv : Value) (w : World) (hsc : Scn gs gt s0 n0 h0 w) (htk : TabK gs gt t w) (hp : Si .u8 pv p w) :
    Calls Try.prog 21 #[.pointer (some ⟨gs, 0, none⟩), pv] w fun e w' => ∃ v, e = .returned v ∧ w'.ownsRow w.heap.size 39 2 v (fnd t s0 n0 p).length (hc (fnd t s0 n0 p)) ∧ Scn gs gt (rn t s0 p) (n0 + p.length) (t.depths.getD (rn t s0 p) 0) w' ∧
      w'.os = w.os ∧ w'.tape = w.tape ∧ w'.output = w.output ∧ w.heap.size ≤ w'.heap.size ∧ ∀ j, j < w.heap.size → j ≠ gs → w'.heap[j]? = w.heap[j]? := by
  have c0 : w.cell? ⟨gs, 0, none⟩ = some (.pointer (some ⟨gt, 0, none⟩)) := (cell_of_row w gs 0 _ _ _ hsc).trans rfl
  have c1 : w.cell? ⟨gs, 1, none⟩ = some (.int .i32 (s0 : Int)) := (cell_of_row w gs 1 _ _ _ hsc).trans rfl
  obtain ⟨po, pc, rfl, _, _, hp3⟩ := hp.form
  have HP : Hid (0 < p.length → ∃ b off, po = some ⟨b, off, none⟩ ∧ b < w.heap.size ∧ ∀ j, j < p.length → w.cell? ⟨b, off + j, none⟩ = some (.int .u8 ((p.getD j 0 : Nat) : Int))) := hp3
  have hne : gs ≠ gt := by have := htk.1; omega
  have HTK : Hid (TabK gs gt t w) := htk
  have HT : Hid (Tab gt t w) := htk.tab
  have HS : Hid (Scn gs gt s0 n0 h0 w) := hsc
  have HW : Hid (Wk t) := hw
  have HG : Hid (Gd t G) := hG
  have HPB : Hid (Byt p) := hpb
  clear hsc htk hp hp3 hw hG hpb
  go_enter Try.func21, Try.ntmps21
  go_wp2_with fail
  go_quiet (fail)
  go_wp2_with fail
  have HB0 : Hid (Below w.heap.size w (w.drewN nq)) := Below.drewN' (Below.refl _ w) nq
  have HO0 : Hid ((w.drewN nq).ownsRow w.heap.size 39 2 (.slice none 0 0) 0 (hc (fnd t s0 n0 (p.take 0)))) := World.ownsRow_nil _ _ _ _
  have HG0 : Hid (G s0) := hs0
  go_loopw [5, 7, 31] (fun hv sv iv wr => ∃ (k s : Nat), iv = .int .i64 (k : Int) ∧ k ≤ p.length ∧ sv = .int .i32 (s : Int) ∧ Hid (s = rn t s0 (p.take k)) ∧ Hid (wr.ownsRow w.heap.size 39 2 hv (fnd t s0 n0 (p.take k)).length (hc (fnd t s0 n0 (p.take k)))) ∧ Hid (Below w.heap.size w wr) ∧ Hid (G s)) (fun _ _ iv _ => p.length - (intOf iv).toNat)
  case atStart => exact ⟨0, s0, rfl, by omega, rfl, by show _ = _; rw [List.take_zero]; rfl, HO0, HB0, HG0⟩
  case round =>
    clear HB0 HO0 HG0
    obtain ⟨k, s, rfl, hk, rfl, HRN, HO, HB, HGs⟩ := hrel
    by_cases hlt : k < p.length
    · have hk0 : (0 : Int) ≤ (k : Int) := by omega
      have hk1 : (k : Int) < (p.length : Int) := by omega
      obtain ⟨b, off, rfl, hbz, hcp⟩ := HP.out (by omega)
      have cp : wr.cell? ⟨b, off + k, none⟩ = some (.int .u8 ((p.getD k 0 : Nat) : Int)) := (World.cell?_of_block (w := w) (HB.out.block b hbz)).trans (hcp k hlt)
      have hcb : p.getD k 0 < 256 := by
        have : p.getD k 0 = p[k] := by simp [List.getD, hlt]
        rw [this]; exact HPB.out _ (List.getElem_mem hlt)
      have HR1 : Hid (rn t s0 (p.take (k + 1)) = (stp t s (p.getD k 0)).1 ∧ fnd t s0 n0 (p.take (k + 1)) = fnd t s0 n0 (p.take k) ++ (match (stp t s (p.getD k 0)).2 with | some x => [(((n0 + k : Nat) : Int) + 1 - (t.width : Int), (x : Int))] | none => [])) := by
        have e : (p.take k).length = k := by rw [List.length_take]; omega
        refine ⟨?_, ?_⟩
        · rw [take_snoc hlt, rn_app, ← HRN.out]; rfl
        · rw [take_snoc hlt, fnd_app, ← HRN.out, e]
          congr 1
          rw [fnd, fnd, List.append_nil]
      revert cp hcb HR1
      generalize p.getD k 0 = c
      intro cp hcb HR1
      have TR : Hid (Tab gt t wr) := by
        obtain ⟨vl, vd, vf, vb, vr, vv, q0, q1, q2, q3, q4, q5, q6⟩ := HT.out
        have q := HT.out.below (HB.out)
        exact q
      have hsle := HG.out.le s HGs.out
      have CN : Hid (Calls Try.prog 55 #[.pointer (some ⟨gt, 0, none⟩), .int .i32 (s : Int), .int .u8 (c : Int)] wr fun e w' => e = .returned (.int .i32 ((nx t c (s + 1) s : Nat) : Int)) ∧ ∃ q, w' = wr.drewN q) := next_any gt t HW.out.bd HW.out.lb c hcb s hsle HW.out.r0 HW.out.l0 (HG.out.nw s HGs.out) wr TR.out
      have hn1 := HG.out.n1 s c HGs.out hcb
      have HH := HG.out.hit s c HGs.out hcb
      have HGo := stp_good HG.out HGs.out hcb
      have HST : Hid (stp t s c = if t.firsts.length - 1 ≤ nx t c (s + 1) s then (t.backs.getD (nx t c (s + 1) s) 0, some (t.values.getD (nx t c (s + 1) s - (t.firsts.length - 1)) 0)) else (nx t c (s + 1) s, none)) := rfl
      have CW0 : Hid (∀ W, Tab gt t W → Calls Try.prog 56 #[.pointer (some ⟨gt, 0, none⟩), .int .i32 ((nx t c (s + 1) s : Nat) : Int)] W fun e w' => e = .returned (wdV t (nx t c (s + 1) s)) ∧ w' = W) := fun W h => word_any gt t HW.out.f1 HW.out.bd _ hn1 (fun h => (HH h).1) W h
      unfold wdV at CW0
      have HHH : Hid (t.firsts.length - 1 ≤ nx t c (s + 1) s → nx t c (s + 1) s < t.backs.length) := fun h => (HH h).2.1
      have HGO : Hid (G (stp t s c).1) := HGo
      clear HH HGo
      revert CN hn1 HST CW0 HHH
      generalize nx t c (s + 1) s = s1
      intro CN hn1 HST CW0 HHH
      go_wp2_with fail
      refine Calls.mono CN.out ?_
      rintro e W ⟨rfl, q, hWq⟩
      have HBW : Hid (Below w.heap.size w W) := by rw [hWq]; exact Below.drewN' HB.out q
      have HOW : Hid (W.ownsRow w.heap.size 39 2 u5 (fnd t s0 n0 (p.take k)).length (hc (fnd t s0 n0 (p.take k)))) := by rw [hWq]; exact own_keep2 HO.out fun _ _ => rfl
      clear hWq cp CN HO HB TR
      have TW : Hid (Tab gt t W) := HT.out.below HBW.out
      by_cases hh : t.firsts.length - 1 ≤ s1
      · simp only [if_pos hh] at CW0 HST
        have hsb := HHH.out hh
        obtain ⟨x, hx⟩ : ∃ x, x = t.values.getD (s1 - (t.firsts.length - 1)) 0 := ⟨_, rfl⟩
        obtain ⟨B0, hB0⟩ : ∃ B0, B0 = t.backs.getD s1 0 := ⟨_, rfl⟩
        rw [← hx] at CW0 HST
        rw [← hB0] at HST
        rw [HST.out] at HR1 HGO
        obtain ⟨D, hD⟩ : ∃ D, W.drew = D := ⟨_, rfl⟩
        have HBD : Hid (Below w.heap.size w D) := by rw [← hD]; exact HBW.out.trans (Below.refl _ W).drew
        have HOD : D.ownsRow w.heap.size 39 2 u5 (fnd t s0 n0 (p.take k)).length (hc (fnd t s0 n0 (p.take k))) := by rw [← hD]; exact own_keep2 HOW.out fun _ _ => rfl
        obtain ⟨X, hX⟩ : ∃ X : Int, X = ((n0 + k : Nat) : Int) + 1 - (t.width : Int) := ⟨_, rfl⟩
        have hfl : (fnd t s0 n0 (p.take k)).length ≤ k := by have := fnd_len t s0 n0 (p.take k); rw [List.length_take] at this; omega
        obtain ⟨v', W2, rW, oW, gW⟩ := run_app1h D w.heap.size _ 31 u5 _ X (x : Int) HOD (by omega) HBD.out.size
        obtain ⟨ou, cu, rfl⟩ := own_size HOD
        have HB2 : Hid (Below w.heap.size w W2) := by
          have hz := HBD.out.size
          refine HBD.out.trans ⟨by rw [gW.os]; rfl, by rw [gW.tape]; rfl, by rw [gW.output]; rfl, by have := gW.size; simp at this; omega, fun j hj => ?_⟩
          rw [gW.block j (by simp; omega) (fun e => by have := (HOD.lt j e.symm).1; omega), heap_alloc_old _ _ (h := by omega)]
        have HO2 : Hid (W2.ownsRow w.heap.size 39 2 v' (fnd t s0 n0 (p.take (k + 1))).length (hc (fnd t s0 n0 (p.take (k + 1))))) := by
          have e : fnd t s0 n0 (p.take (k + 1)) = fnd t s0 n0 (p.take k) ++ [(X, (x : Int))] := by rw [HR1.out.2, hX]
          show World.ownsRow _ _ _ _ _ _ _
          rw [e, List.length_append, List.length_singleton]
          exact oW
        have gz : gs < w.heap.size := (Array.getElem?_eq_some_iff.1 HS.out).1
        have d2 : D.cell? ⟨gs, 2, none⟩ = some (.int .i64 (n0 : Int)) := (World.cell?_of_block (w := w) (HBD.out.block gs gz)).trans ((cell_of_row w gs 2 _ _ _ HS.out).trans rfl)
        have TD := HT.out.below HBD.out
        have T2 := HT.out.below HB2.out
        obtain ⟨_, _, _, _, _, _, rT, _⟩ := TD
        have dw : D.cell? ⟨gt, 0, none⟩ = some (.int .i64 (t.width : Int)) := (cell_of_row D gt 0 _ _ _ rT).trans rfl
        obtain ⟨_, _, _, vb2, _, _, rT2, _, _, _, hb4, _⟩ := T2
        obtain ⟨ob, cb, rfl, _, _, hb5⟩ := hb4.form
        obtain ⟨bb, offb, rfl, _, hb6⟩ := hb5 (by omega)
        have e4 : W2.cell? ⟨gt, 4, none⟩ = some (.slice (some ⟨bb, offb, none⟩) t.backs.length cb) := (cell_of_row W2 gt 4 _ _ _ rT2).trans rfl
        have e5 : W2.cell? ⟨bb, offb + s1, none⟩ = some (.int .i32 (B0 : Int)) := by rw [hb6 s1 hsb, hB0]
        obtain ⟨A1, hA1⟩ : ∃ A1, A1 = n0 + k := ⟨_, rfl⟩
        obtain ⟨A2, hA2⟩ : ∃ A2, A2 = A1 + 1 := ⟨_, rfl⟩
        have hwd := HW.out.wd
        have f1 : (n0 : Int) + (k : Int) = (A1 : Int) := by omega
        have f2 : (A1 : Int) + 1 = (A2 : Int) := by omega
        have f3 : IntKind.i64.wrap ((A2 : Int) - (t.width : Int)) = X := by rw [wi _ (by unfold I64; omega)]; omega
        have g1 : (A1 : Int) < 9223372036854775808 := by omega
        have g2 : (A2 : Int) < 9223372036854775808 := by omega
        have hs1 : (0 : Int) ≤ (s1 : Int) := by omega
        have hs2 : (s1 : Int) < (t.backs.length : Int) := by omega
        have HR2 : Hid (B0 = rn t s0 (p.take (k + 1))) := HR1.out.1.symm
        clear hX hA1 hA2 hx hB0 HOD oW gW rT rT2 hb4 hb5 hb6 hh HST HHH
        go_wp2_with fail
        refine Calls.mono (CW0.out W TW.out) ?_
        rintro e W' ⟨rfl, rfl⟩
        go_wp2_with fail
        go_region
        go_wp2
        exact ⟨⟨k + 1, B0, by rfl, by omega, rfl, HR2, HO2, HB2, HGO⟩, by simp only [intOf]; omega⟩
      · simp only [if_neg hh] at CW0 HST
        go_wp2_with fail
        refine Calls.mono (CW0.out W TW.out) ?_
        rintro e W' ⟨rfl, rfl⟩
        rw [HST.out] at HR1 HGO
        have HR2 : Hid (s1 = rn t s0 (p.take (k + 1))) := HR1.out.1.symm
        have HO2 : Hid (W'.ownsRow w.heap.size 39 2 u5 (fnd t s0 n0 (p.take (k + 1))).length (hc (fnd t s0 n0 (p.take (k + 1))))) := by
          have e : fnd t s0 n0 (p.take (k + 1)) = fnd t s0 n0 (p.take k) := by rw [HR1.out.2]; simp
          show World.ownsRow _ _ _ _ _ _ _
          rw [e]; exact HOW.out
        clear HOW HR1 HST hh
        go_wp2
        exact ⟨⟨k + 1, s1, by rfl, by omega, rfl, HR2, HO2, HBW, HGO⟩, by simp only [intOf]; omega⟩
    · have hk1 : ¬ ((k : Int) < (p.length : Int)) := by omega
      have hke : k = p.length := by omega
      subst hke
      rw [List.take_length] at HRN HO
      have gz : gs < w.heap.size := (Array.getElem?_eq_some_iff.1 HS.out).1
      have R0 : wr.heap[gs]? = some (.cells #[.pointer (some ⟨gt, 0, none⟩), .int .i32 (s0 : Int), .int .i64 (n0 : Int), .int .i64 (h0 : Int)] 90 (0, 0)) := (HB.out.block gs gz).trans HS.out
      have x1 : wr.cell? ⟨gs, 1, none⟩ = some (.int .i32 (s0 : Int)) := (cell_of_row wr gs 1 _ _ _ R0).trans rfl
      have y1 : wr.frozen? ⟨gs, 1, none⟩ = false := frozen_of_row wr _ _ _ _ R0
      obtain ⟨W1, hW1⟩ : ∃ W1, wr.setCell ⟨gs, 1, none⟩ (.int .i32 (s : Int)) = W1 := ⟨_, rfl⟩
      have R1 : W1.heap[gs]? = some (.cells #[.pointer (some ⟨gt, 0, none⟩), .int .i32 (s : Int), .int .i64 (n0 : Int), .int .i64 (h0 : Int)] 90 (0, 0)) := by rw [← hW1]; exact (heap_setCell_same _ _ _ _ _ _ R0).trans rfl
      have x2 : W1.cell? ⟨gs, 2, none⟩ = some (.int .i64 (n0 : Int)) := (cell_of_row W1 gs 2 _ _ _ R1).trans rfl
      have y2 : W1.frozen? ⟨gs, 2, none⟩ = false := frozen_of_row W1 _ _ _ _ R1
      obtain ⟨n1, hn1⟩ : ∃ n1, n1 = n0 + p.length := ⟨_, rfl⟩
      have f1 : (n0 : Int) + (p.length : Int) = (n1 : Int) := by omega
      have g1 : (n1 : Int) < 9223372036854775808 := by omega
      obtain ⟨W2, hW2⟩ : ∃ W2, W1.setCell ⟨gs, 2, none⟩ (.int .i64 (n1 : Int)) = W2 := ⟨_, rfl⟩
      have R2 : W2.heap[gs]? = some (.cells #[.pointer (some ⟨gt, 0, none⟩), .int .i32 (s : Int), .int .i64 (n1 : Int), .int .i64 (h0 : Int)] 90 (0, 0)) := by rw [← hW2]; exact (heap_setCell_same _ _ _ _ _ _ R1).trans rfl
      have x3 : W2.cell? ⟨gs, 3, none⟩ = some (.int .i64 (h0 : Int)) := (cell_of_row W2 gs 3 _ _ _ R2).trans rfl
      have y3 : W2.frozen? ⟨gs, 3, none⟩ = false := frozen_of_row W2 _ _ _ _ R2
      have oth : ∀ j, j ≠ gs → W2.heap[j]? = wr.heap[j]? := fun j hj => by rw [← hW2, heap_setCell_other _ _ _ _ hj, ← hW1, heap_setCell_other _ _ _ _ hj]
      have z2 : W2.heap.size = wr.heap.size := by rw [← hW2, ← hW1]; simp [World.setCell]
      obtain ⟨_, vl, vd, vf, vb, vr, vv, q0, ⟨_, q2, _⟩, q7⟩ := HTK.out
      have hbk := q7 vd (by simp)
      obtain ⟨od, cd, rfl, _, _, hd3⟩ := q2.form
      have hsd := HG.out.dp s HGs.out
      obtain ⟨bd, offd, rfl, hbdz, hd4⟩ := hd3 (by omega)
      have gtz : gt < w.heap.size := (Array.getElem?_eq_some_iff.1 q0).1
      have kt : W2.cell? ⟨gt, 2, none⟩ = some (.slice (some ⟨bd, offd, none⟩) t.depths.length cd) := by
        rw [World.cell?_of_block (w := w) ((oth gt (Ne.symm hne)).trans (HB.out.block gt gtz))]
        exact (cell_of_row w gt 2 _ _ _ q0).trans rfl
      have hbg : bd ≠ gs := by have := hbk bd rfl; omega
      have kd : W2.cell? ⟨bd, offd + s, none⟩ = some (.int .u8 ((t.depths.getD s 0 : Nat) : Int)) := by
        rw [World.cell?_of_block (w := w) ((oth bd hbg).trans (HB.out.block bd hbdz))]
        exact hd4 s hsd
      obtain ⟨dp, hdp⟩ : ∃ dp, dp = t.depths.getD s 0 := ⟨_, rfl⟩
      rw [← hdp] at kd
      have hdb : dp < 256 := by
        have : t.depths.getD s 0 = t.depths[s] := by simp [List.getD, hsd]
        rw [hdp, this]; exact HW.out.db _ (List.getElem_mem hsd)
      have hdb1 : (dp : Int) < 256 := by omega
      have hs1 : (0 : Int) ≤ (s : Int) := by omega
      have hs2 : (s : Int) < (t.depths.length : Int) := by omega
      have POST : Hid ((W2.setCell ⟨gs, 3, none⟩ (.int .i64 (dp : Int))).ownsRow w.heap.size 39 2 u5 (fnd t s0 n0 p).length (hc (fnd t s0 n0 p)) ∧ Scn gs gt (rn t s0 p) (n0 + p.length) (t.depths.getD (rn t s0 p) 0) (W2.setCell ⟨gs, 3, none⟩ (.int .i64 (dp : Int))) ∧
          (W2.setCell ⟨gs, 3, none⟩ (.int .i64 (dp : Int))).os = w.os ∧ (W2.setCell ⟨gs, 3, none⟩ (.int .i64 (dp : Int))).tape = w.tape ∧ (W2.setCell ⟨gs, 3, none⟩ (.int .i64 (dp : Int))).output = w.output ∧ w.heap.size ≤ (W2.setCell ⟨gs, 3, none⟩ (.int .i64 (dp : Int))).heap.size ∧ ∀ j, j < w.heap.size → j ≠ gs → (W2.setCell ⟨gs, 3, none⟩ (.int .i64 (dp : Int))).heap[j]? = w.heap[j]?) := by
        have oth3 : ∀ j, j ≠ gs → (W2.setCell ⟨gs, 3, none⟩ (.int .i64 (dp : Int))).heap[j]? = wr.heap[j]? := fun j hj => (heap_setCell_other _ _ _ _ hj).trans (oth j hj)
        refine ⟨own_keep2 HO.out fun j hj => oth3 j (by have := (HO.out.lt j hj).1; omega), ?_, ?_, ?_, ?_, ?_, fun j hj hn => (oth3 j hn).trans (HB.out.block j hj)⟩
        · unfold Scn
          rw [← HRN.out, ← hdp, ← hn1]
          exact (heap_setCell_same _ _ _ _ _ _ R2).trans rfl
        · show W2.os = _; rw [← hW2]; show W1.os = _; rw [← hW1]; exact HB.out.os
        · show W2.tape = _; rw [← hW2]; show W1.tape = _; rw [← hW1]; exact HB.out.tape
        · show W2.output = _; rw [← hW2]; show W1.output = _; rw [← hW1]; exact HB.out.output
        · have := HB.out.size; simp [World.setCell]; omega
      clear R0 R1 R2 oth z2 q0 q2 q7 hd3 hd4 hn1 hdp HO HRN
      go_wp2
      go_ret
      exact ⟨_, rfl, POST.out⟩
end Go.Proofs.Ytceaklefdahfkab
