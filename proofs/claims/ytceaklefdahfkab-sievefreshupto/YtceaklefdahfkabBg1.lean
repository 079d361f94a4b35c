/- The sieve: New, and that all it lays is new. -/
import Derived.Test.YtceaklefdahfkabSv21
namespace Go.Proofs.Ytceaklefdahfkab
open Go.RowKit
/-- The table, as it lies, between two blocks. -/
def TabB (B K g : Nat) (t : Tbl) (w : World) : Prop := B ≤ g ∧ g < K ∧ ∃ vl vd vf vb vr vv, w.heap[g]? = some (.cells #[.int .i64 (t.width : Int), vl, vd, vf, vb, vr, vv] 100 (0, 0)) ∧
  (Si .u8 vl t.letters w ∧ Si .u8 vd t.depths w ∧ Si .i32 vf t.firsts w ∧ Si .i32 vb t.backs w ∧ Sr vr t.rows w ∧ Si .i64 vv t.values w) ∧
  ∀ v, v = vl ∨ v = vd ∨ v = vf ∨ v = vb ∨ v = vr ∨ v = vv → ∀ k, v.ownBlock = some k → B ≤ k ∧ k < K
theorem TabB.tabK {B K g : Nat} {t : Tbl} {w : World} (h : TabB B K g t w) : TabK K g t w := by
  obtain ⟨_, hg, vl, vd, vf, vb, vr, vv, h0, h1, h7⟩ := h
  exact ⟨hg, vl, vd, vf, vb, vr, vv, h0, h1, fun v hv k hk => (h7 v hv k hk).2⟩
theorem TabB.keep {B K g : Nat} {t : Tbl} {w w' : World} (h : TabB B K g t w) (hs : w.heap.size ≤ w'.heap.size) (hb : ∀ j, B ≤ j → j < K → j < w.heap.size → w'.heap[j]? = w.heap[j]?) : TabB B K g t w' := by
  obtain ⟨hB, hg, vl, vd, vf, vb, vr, vv, h0, ⟨h1, h2, h3, h4, h5, h6⟩, h7⟩ := h
  have q : ∀ v, v = vl ∨ v = vd ∨ v = vf ∨ v = vb ∨ v = vr ∨ v = vv → ∀ k, v.ownBlock = some k → k < w.heap.size → w'.heap[k]? = w.heap[k]? := fun v hv k hk hz => hb k (h7 v hv k hk).1 (h7 v hv k hk).2 hz
  exact ⟨hB, hg, vl, vd, vf, vb, vr, vv, (hb g hB hg (Array.getElem?_eq_some_iff.1 h0).1).trans h0, ⟨h1.keep hs (q vl (by simp)), h2.keep hs (q vd (by simp)), h3.keep hs (q vf (by simp)), h4.keep hs (q vb (by simp)), h5.keep hs (q vr (by simp)), h6.keep hs (q vv (by simp))⟩, h7⟩
theorem TabB.mono {B K K' g : Nat} {t : Tbl} {w : World} (h : TabB B K g t w) (hk : K ≤ K') : TabB B K' g t w := by
  obtain ⟨hB, hg, vl, vd, vf, vb, vr, vv, h0, h1, h7⟩ := h
  exact ⟨hB, by omega, vl, vd, vf, vb, vr, vv, h0, h1, fun v hv k hk' => by have := h7 v hv k hk'; omega⟩
theorem Lz.tabB {K g bb : Nat} {lv dv fv rv vv : Value} {t : Tbl} {w : World} (h : Lz K g bb lv dv fv rv vv t w) (B : Nat) (hBg : B ≤ g) (q1 : ∀ k, lv.ownBlock = some k → B ≤ k) (q2 : ∀ k, dv.ownBlock = some k → B ≤ k) (q3 : ∀ k, fv.ownBlock = some k → B ≤ k) (q4 : ∀ k, vv.ownBlock = some k → B ≤ k) : TabB B w.heap.size g t w := by
  have bz : bb < w.heap.size := (Array.getElem?_eq_some_iff.1 h.bk).1
  have hg := h.gk
  have hkb := h.kb
  refine ⟨hBg, by omega, lv, dv, fv, _, rv, vv, h.row, ⟨h.l.1, h.d.1, h.f.1, .inr ⟨bb, 0, _, rfl, Nat.le_refl _, h.bm, bz, fun j hj => by rw [Nat.zero_add]; exact (cell_of_row w bb j _ _ _ h.bk).trans (ik_get _ _ j hj)⟩, rows_sr h.rw rfl h.rl, h.v.1⟩, ?_⟩
  intro v hv k hk
  rcases hv with rfl | rfl | rfl | rfl | rfl | rfl
  · exact ⟨q1 k hk, h.l.1.lt k hk⟩
  · exact ⟨q2 k hk, h.d.1.lt k hk⟩
  · exact ⟨q3 k hk, h.f.1.lt k hk⟩
  · cases hk; exact ⟨show B ≤ bb by omega, bz⟩
  · have := (h.rw.lt k hk); exact ⟨by omega, this.2⟩
  · exact ⟨q4 k hk, h.v.1.lt k hk⟩
set_option maxRecDepth 100000 in
theorem newTable_b (l : List ByteArray) (hl : l.length ≤ 4096) (m : Nat) (hm : m ≤ 64) (hs : ∀ s ∈ l, s.size = m) (vals : List Nat) (hvl : vals.length ≤ 4096) (v vv : Value) (w : World) (hv : St v l w) (hvv : Si .i64 vv vals w) (B : Nat) (hB : B ≤ w.heap.size) (hvb : ∀ k, vv.ownBlock = some k → B ≤ k) :
    Calls Try.prog 47 #[.int .i64 (m : Int), v, vv] w fun e w' => e = .returned (.pointer (some ⟨w.heap.size, 0, none⟩)) ∧ TabB B w'.heap.size w.heap.size (ftT (l.map tl) vals m) w' ∧ Below w.heap.size w w' := by
  obtain ⟨W, hW⟩ : ∃ W, W = w.alloc (.cells #[.int .i64 (m : Int), .slice none 0 0, .slice none 0 0, .slice none 0 0, .slice none 0 0, .slice none 0 0, vv] 100) := ⟨_, rfl⟩
  have B0 : Below w.heap.size w W := by rw [hW]; exact (Below.refl _ w).alloc (Nat.le_refl _) _
  have R0 : W.heap[w.heap.size]? = some (.cells #[.int .i64 (m : Int), .slice none 0 0, .slice none 0 0, .slice none 0 0, .slice none 0 0, .slice none 0 0, vv] 100 (0, 0)) := by rw [hW]; exact heap_alloc_new _ _
  obtain ⟨g, hg⟩ : ∃ g, g = w.heap.size := ⟨_, rfl⟩
  have CS : Hid (Calls Try.prog 74 #[.pointer (some ⟨g, 0, none⟩), v] W fun e w' => e = .returned (.tuple #[]) ∧ (∃ sb sr, Lq g sb sr (.int .i64 (m : Int)) (.slice none 0 0) (.slice none 0 0) vv ((lS (l.map tl) (shr (l.map tl)) m).1, (lS (l.map tl) (shr (l.map tl)) m).2.1, (lS (l.map tl) (shr (l.map tl)) m).2.2 ++ [(lS (l.map tl) (shr (l.map tl)) m).1.length]) w') ∧ Below g W w') := by
    rw [hg]
    exact layStates_any w.heap.size l hl m hm hs v vv W (hv.below B0) (fun k hk => hv.lt k hk) R0
  have CB : Hid (∀ W1, (∃ sb sr, Lq g sb sr (.int .i64 (m : Int)) (.slice none 0 0) (.slice none 0 0) vv ((lS (l.map tl) (shr (l.map tl)) m).1, (lS (l.map tl) (shr (l.map tl)) m).2.1, (lS (l.map tl) (shr (l.map tl)) m).2.2 ++ [(lS (l.map tl) (shr (l.map tl)) m).1.length]) W1) → Below g W W1 → Calls Try.prog 75 #[.pointer (some ⟨g, 0, none⟩)] W1 fun e w' => e = .returned (.tuple #[]) ∧ TabB B w'.heap.size g (ftT (l.map tl) vals m) w' ∧ Below g w w') := by
    intro W1 hq hb
    obtain ⟨sb, sr, a, b, f, hy⟩ := hq
    have z1 := hy.gz
    have vs1 : Sk W1.heap.size g .i64 vv vals W1 := by
      have hb1 : Below g w W1 := by rw [hg] at hb ⊢; exact B0.trans hb
      exact ⟨hvv.keep hb1.size fun j hj hz => hb1.block j (by omega), fun j hj => by have := hvv.lt j hj; omega⟩
    refine Calls.mono (layBacks_any g (mkT (l.map tl) vals m) (mkT_bk _ _ _) (mkT_bd _ _ _ (by simpa using hl) hvl hm) (mkT_byt _ _ _ (fun u hu => by obtain ⟨s, _, rfl⟩ := List.mem_map.1 hu; exact tl_byt s) hm).1 rfl rfl (mkT_firsts _ _ _) (mkT_letters _ _ _) a b f vv W1 hy.row (own_sk hy.oa rfl (by omega)) (own_sk hy.ob rfl (by omega)) (own_sk hy.of rfl (by omega)) vs1) ?_
    rintro e w' ⟨h1, ⟨bb, rv, hz⟩, h3⟩
    have : W1.heap.size ≤ w'.heap.size := h3.size
    exact ⟨h1, hz.tabB B (by omega) (fun k hk => by have := (hy.oa.lt k hk).1; omega) (fun k hk => by have := (hy.ob.lt k hk).1; omega) (fun k hk => by have := (hy.of.lt k hk).1; omega) hvb, by rw [hg] at hb h3 ⊢; exact (B0.trans hb).trans h3⟩
  have HB : Hid _ := CB
  clear CB
  rw [hg] at CS HB
  rw [hW] at CS HB
  obtain ⟨o, c, hvo, _⟩ := hvv.form
  subst hvo
  clear hv hvv hs B0 R0 hW hg
  go_enter Try.func47, Try.ntmps47
  go_wp2_with fail
  refine Calls.mono CS.out ?_
  rintro e W1 ⟨rfl, h1, h2⟩
  have CC : Hid _ := HB.out W1 h1 h2
  clear h1 h2 CS HB
  go_wp2_with fail
  refine Calls.mono CC.out ?_
  rintro e W2 ⟨rfl, h1, h2⟩
  have HH : Hid _ := And.intro h1 h2
  clear h1 h2 CC
  go_wp2
  go_ret
  exact ⟨rfl, HH.out⟩
/-- What byText hands out. -/
def ByTb (l : List ByteArray) (w : World) (e : Ending) (w' : World) : Prop := ∃ g ns, e = .returned (.slice (some ⟨g, 0, none⟩) l.length l.length) ∧ Srt l ns ∧ Si .i64 (.slice (some ⟨g, 0, none⟩) l.length l.length) ns w' ∧ Below w.heap.size w w' ∧ w.heap.size ≤ g
def NewPb (l : List ByteArray) (w : World) (e : Ending) (w' : World) : Prop :=
  (4096 < l.length ∧ e = .returned (.tuple #[.pointer none, .int .i64 1])) ∨
  (l.length ≤ 4096 ∧ (wdO l).2 = false ∧ e = .returned (.tuple #[.pointer none, .int .i64 50])) ∨
  (l.length ≤ 4096 ∧ (wdO l).2 = true ∧ ∃ ns, Srt l ns ∧ (∃ i, i + 1 < l.length ∧ tl (txt l (ns.getD i 0)) = tl (txt l (ns.getD (i + 1) 0))) ∧ e = .returned (.tuple #[.pointer none, .int .i64 51])) ∨
  (l.length ≤ 4096 ∧ (wdO l).2 = true ∧ ∃ ns, NewOk l ns ∧ ∃ g gt, e = .returned (.tuple #[.pointer (some ⟨g, 0, none⟩), .int .i64 0]) ∧ Sve g gt w' ∧ w.heap.size ≤ g ∧ TabB w.heap.size w'.heap.size gt (ftT ((wdS l ns).map tl) ns (wdO l).1) w')
attribute [local go_sem ↓] toMkI toMkS
set_option maxRecDepth 100000 in
set_option maxHeartbeats 1600000 in
theorem byText_b (l : List ByteArray) (hl : l.length ≤ 4096) (v : Value) (w : World) (hv : St v l w) : Calls Try.prog 46 #[v] w (ByTb l w) := by
  obtain ⟨W1, hW1⟩ : ∃ W1, w.alloc (.cells #[v] 22) = W1 := ⟨_, rfl⟩
  have B1 : Below w.heap.size w W1 := by rw [← hW1]; exact (Below.refl _ w).alloc (Nat.le_refl _) _
  have R1 : W1.heap[w.heap.size]? = some (.cells #[v] 22 (0, 0)) := by rw [← hW1]; exact heap_alloc_new _ _
  have z1 : W1.heap.size = w.heap.size + 1 := by rw [← hW1]; simp
  have cb : W1.cell? ⟨w.heap.size, 0, none⟩ = some v := (cell_of_row W1 _ _ _ _ _ R1).trans rfl
  obtain ⟨W0, r0, R0, B0⟩ := run_mkI W1 l.length (by omega)
  rw [z1] at r0 R0 B0
  have HR0 : Hid (W0.heap[w.heap.size + 1]? = some (.cells (ik .i64 (List.replicate l.length 0)) 3 (0, 0))) := R0
  have HB0 : Hid (Below (w.heap.size + 1) W1 W0) := B0
  have HS : Hid (∀ wr, wr.heap[w.heap.size + 1]? = some (.cells (ik .i64 (List.range l.length)) 3 (0, 0)) → Below (w.heap.size + 1) W1 wr → Calls Try.prog 71 #[.slice (some ⟨w.heap.size + 1, 0, none⟩) l.length l.length, .func (.func 72) #[] #[.pointer (some ⟨w.heap.size, 0, none⟩)]] wr fun e w' => e = .returned (.tuple #[]) ∧ ∃ ns, Srt l ns ∧ Si .i64 (.slice (some ⟨w.heap.size + 1, 0, none⟩) l.length l.length) ns w' ∧ Below w.heap.size w w') := fun wr hr hb => by
    have hbw : Below w.heap.size w wr := B1.trans (hb.mono (by omega))
    refine (sort_any l hl v w.heap.size (w.heap.size + 1) w wr hv (by omega) (by omega) hbw ?_ hr).mono ?_
    · exact (World.cell?_of_block (w := W1) (hb.block _ (by simp))).trans cb
    · rintro e w' ⟨he, ns, h1, h2, h3⟩
      exact ⟨he, ns, h1, h2, hbw.trans (h3.mono (by omega))⟩
  obtain ⟨o, c, hvo, _, _, _⟩ := hv.form
  clear hv R0 B0 R1 B1 z1
  subst hvo
  unfold ByTb
  generalize hgb : w.heap.size = gb at *
  go_enter Try.func46, Try.ntmps46
  go_wp2_with fail
  go_loopw [10] (fun iv wr => ∃ (i : Nat) (r : List Nat), iv = .int .i64 (i : Int) ∧ i ≤ l.length ∧ Hid (r.length = l.length) ∧ Hid (∀ j, j < i → r.getD j 0 = j) ∧ Hid (wr.heap[gb + 1]? = some (.cells (ik .i64 r) 3 (0, 0))) ∧ Hid (Below (gb + 1) W1 wr)) (fun iv _ => l.length - (intOf iv).toNat)
  case atStart => exact ⟨0, _, rfl, by omega, List.length_replicate, fun j hj => by omega, HR0, HB0⟩
  case round =>
    clear HR0 HB0
    obtain ⟨i, r, rfl, hi, HL, HG, HR, HB⟩ := hrel
    by_cases hlt : i < l.length
    · have hi0 : (0 : Int) ≤ (i : Int) := by omega
      have hi1 : (i : Int) < (l.length : Int) := by omega
      have hrl := HL.out
      have cw : wr.cell? ⟨gb + 1, i, none⟩ = some (.int .i64 ((r.getD i 0 : Nat) : Int)) := (cell_of_row wr _ _ _ _ _ HR.out).trans (ik_get _ _ _ (by omega))
      have fw : wr.frozen? ⟨gb + 1, i, none⟩ = false := frozen_of_row wr _ _ _ _ HR.out
      have HR2 : Hid ((wr.setCell ⟨gb + 1, i, none⟩ (.int .i64 (i : Int))).heap[gb + 1]? = some (.cells (ik .i64 (r.set i i)) 3 (0, 0))) := by
        show _ = _
        rw [← ik_set]; exact heap_setCell_same _ _ _ _ _ _ HR.out
      have HB2 : Hid (Below (gb + 1) W1 (wr.setCell ⟨gb + 1, i, none⟩ (.int .i64 (i : Int)))) := HB.out.setCell (Nat.le_refl _) _
      have HL2 : Hid ((r.set i i).length = l.length) := by show _ = _; rw [List.length_set]; exact hrl
      have HG2 : Hid (∀ j, j < i + 1 → (r.set i i).getD j 0 = j) := fun j hj => by
        by_cases h : i = j
        · subst h; simp [List.getD, hrl, hlt]
        · rw [List.getD, List.getElem?_set_ne h, ← List.getD]; exact HG.out j (by omega)
      clear HR HB hrl HG
      generalize r.getD i 0 = x at cw
      go_wp2
      exact ⟨⟨i + 1, _, by rfl, by omega, HL2, HG2, HR2, HB2⟩, by simp only [intOf]; omega⟩
    · have hi1 : ¬ ((i : Int) < (l.length : Int)) := by omega
      have hre : r = List.range l.length := by
        have hrl := HL.out
        apply List.ext_getElem
        · rw [List.length_range]; exact hrl
        · intro j h1 h2
          have := HG.out j (by omega)
          rw [List.getElem_range]
          simpa [List.getD, h1] using this
      have CS : Hid _ := HS.out wr (by rw [← hre]; exact HR.out) HB.out
      clear hre HG HL HR HB HS
      go_wp2_with fail
      refine Calls.mono CS.out ?_
      rintro e w' ⟨rfl, ns, h1, h2, h3⟩
      have HE : Hid _ := And.intro h1 (And.intro h2 h3)
      clear h1 h2 h3
      go_wp2
      go_ret
      exact ⟨gb + 1, ns, rfl, HE.out.1, HE.out.2.1, HE.out.2.2, by omega⟩
set_option maxRecDepth 100000 in
set_option maxHeartbeats 1600000 in
theorem new_b (l : List ByteArray) (hl : l.length ≤ 1099511627776) (hz : ∀ s ∈ l, s.size ≤ 1099511627776) (BT : ∀ (v : Value) (w : World), l.length ≤ 4096 → St v l w → Calls Try.prog 46 #[v] w (ByTb l w)) (v : Value) (w : World) (hv : St v l w) :
    Calls Try.prog 10 #[v] w fun e w' => NewPb l w e w' ∧ Below w.heap.size w w' := by
  have CW : Hid _ := widthOf_any l hl hz v w hv
  have HV : Hid (St v l w) := hv
  obtain ⟨o, c, hvo, _⟩ := hv.form
  have CB : Hid (l.length ≤ 4096 → Calls Try.prog 46 #[v] w (ByTb l w)) := fun h => BT v w h hv
  have WA := @wdO_all l
  subst hvo
  clear hv BT
  by_cases h1 : 4096 < l.length
  · have h1' : (4096 : Int) < (l.length : Int) := by omega
    go_enter Try.func10, Try.ntmps10
    go_wp2
    go_ret2
    exact ⟨.inl ⟨h1, rfl⟩, Below.refl _ _⟩
  have h1' : ¬ ((4096 : Int) < (l.length : Int)) := by omega
  have h1n : l.length ≤ 4096 := by omega
  cases hw : (wdO l).2 with
  | false =>
    rw [hw] at CW
    have HN : Hid (NewPb l w (.returned (.tuple #[.pointer none, .int .i64 50])) w) := .inr (.inl ⟨h1n, hw, rfl⟩)
    clear hw WA
    go_enter Try.func10, Try.ntmps10
    go_wp2_with fail
    refine Calls.mono CW.out ?_
    rintro e w' ⟨rfl, rfl⟩
    go_wp2
    go_ret2
    exact ⟨HN.out, Below.refl _ _⟩
  | true =>
    rw [hw] at CW
    have HW : Hid ((wdO l).2 = true) := hw
    have HA : Hid ((wdO l).1 ≤ 64 ∧ ∀ s ∈ l, s.size = (wdO l).1) := WA hw
    clear hw WA
    obtain ⟨m, hm⟩ : ∃ m, m = (wdO l).1 := ⟨_, rfl⟩
    rw [← hm] at CW HA
    have HM : Hid (m = (wdO l).1) := hm
    clear hm
    have CB2 : Hid _ := CB.out h1n
    clear CB
    go_enter Try.func10, Try.ntmps10
    go_wp2_with fail
    refine Calls.mono CW.out ?_
    rintro e w ⟨rfl, rfl⟩
    go_wp2_with fail
    refine Calls.mono CB2.out ?_
    rintro e w1 ⟨gn, ns, rfl, HSn, HNn, HB1, hgnw⟩
    have HGN : Hid (w.heap.size ≤ gn) := hgnw
    clear hgnw
    obtain ⟨W0, r0, R0, B0⟩ := run_mkS w1 l.length (by omega)
    have hgn : gn < w1.heap.size := HNn.lt gn rfl
    have HV1 : Hid (St (Value.slice o l.length c) l w1) := HV.out.below HB1
    have HNS : Hid (Si IntKind.i64 (Value.slice (some { block := gn, off := 0 }) l.length l.length) ns w1) := HNn
    have HSR : Hid (Srt l ns) := HSn
    have HBL : Hid (Below w.heap.size w w1) := HB1
    have HR0 : Hid (W0.heap[w1.heap.size]? = some (.cells (sk (List.replicate l.length ⟨#[]⟩)) 9 (0, 0))) := by
      show _ = _
      rw [R0]; simp [sk]
    have HB0 : Hid (Below w1.heap.size w1 W0) := B0
    obtain ⟨gw, hgw⟩ : ∃ gw, gw = w1.heap.size := ⟨_, rfl⟩
    rw [← hgw] at r0 HR0 HB0 hgn
    have HGW : Hid (gw = w1.heap.size) := hgw
    clear CW CB2 HSn HNn HB1 B0 R0 hgw HV
    go_wp2_with fail
    go_loopw [27] (fun iv wr => ∃ (i : Nat) (ws : List ByteArray), iv = .int .i64 (i : Int) ∧ i ≤ l.length ∧ Hid (ws.length = l.length) ∧ Hid (∀ j, j < i → txt ws j = txt l (ns.getD j 0)) ∧ Hid (∀ j, j + 1 < i → tl (txt l (ns.getD j 0)) ≠ tl (txt l (ns.getD (j + 1) 0))) ∧ Hid (wr.heap[gw]? = some (.cells (sk ws) 9 (0, 0))) ∧ Hid (Below gw w1 wr)) (fun iv _ => l.length - (intOf iv).toNat)
    case atStart => exact ⟨0, _, rfl, by omega, List.length_replicate, fun j hj => by omega, fun j hj => by omega, HR0, HB0⟩
    case round =>
      clear HR0 HB0
      obtain ⟨i, ws, rfl, hi, HWL, HWG, HNE, HRW, HB⟩ := hrel
      by_cases hlt : i < l.length
      · have hi0 : (0 : Int) ≤ (i : Int) := by omega
        have hi1 : (i : Int) < (l.length : Int) := by omega
        have hnl : ns.length = l.length := HSR.out.len
        have hnlt := HSR.out.lt i hlt
        have cn : wr.cell? ⟨gn, i, none⟩ = some (.int .i64 ((ns.getD i 0 : Nat) : Int)) := by
          have := Si.at HNS.out i (by omega)
          rw [Nat.zero_add] at this
          exact (World.cell?_of_block (w := w1) (HB.out.block gn hgn)).trans this
        obtain ⟨q, hq⟩ : ∃ q, q = ns.getD i 0 := ⟨_, rfl⟩
        rw [← hq] at cn hnlt
        have hq0 : (0 : Int) ≤ (q : Int) := by omega
        have hq1 : (q : Int) < (l.length : Int) := by omega
        obtain ⟨o', c', ho', _, _, hvf⟩ := HV1.out.form
        obtain ⟨b, off, ho, hb, hc⟩ := hvf (by omega)
        cases ho'
        subst ho
        have ca : wr.cell? ⟨b, off + q, none⟩ = some (.string (txt l q)) := (World.cell?_of_block (w := w1) (HB.out.block b (by rw [HGW.out]; exact hb))).trans (hc q _ (txt_get hnlt))
        have hwl := HWL.out
        have cw : wr.cell? ⟨gw, i, none⟩ = some (.string (txt ws i)) := (cell_of_row wr _ _ _ _ _ HRW.out).trans (sk_get ws i (by omega))
        have fw : wr.frozen? ⟨gw, i, none⟩ = false := frozen_of_row wr _ _ _ _ HRW.out
        obtain ⟨W2, hW2⟩ : ∃ W2, wr.setCell ⟨gw, i, none⟩ (.string (txt l q)) = W2 := ⟨_, rfl⟩
        have R2 : W2.heap[gw]? = some (.cells (sk (ws.set i (txt l q))) 9 (0, 0)) := by rw [← hW2, ← sk_set]; exact heap_setCell_same _ _ _ _ _ _ HRW.out
        have HR2 : Hid _ := R2
        have HB2 : Hid (Below gw w1 W2) := by rw [← hW2]; exact HB.out.setCell (Nat.le_refl _) _
        have HL2 : Hid ((ws.set i (txt l q)).length = l.length) := by show _ = _; rw [List.length_set]; exact hwl
        have HG2 : Hid (∀ j, j < i + 1 → txt (ws.set i (txt l q)) j = txt l (ns.getD j 0)) := fun j hj => by
          rw [txt_set _ _ _ _ (by omega)]
          by_cases h : i = j
          · rw [if_pos h, hq, h]
          · rw [if_neg h]; exact HWG.out j (by omega)
        have c2 : W2.cell? ⟨gw, i, none⟩ = some (.string (txt l q)) := by
          rw [cell_of_row W2 _ _ _ _ _ R2, sk_get _ _ (by rw [List.length_set]; omega), txt_set _ _ _ _ (by omega), if_pos rfl]
        rcases Nat.eq_zero_or_pos i with h0 | h0
        · subst h0
          have HN2 : Hid (∀ j, j + 1 < 0 + 1 → tl (txt l (ns.getD j 0)) ≠ tl (txt l (ns.getD (j + 1) 0))) := fun j hj => by omega
          clear hc hvf hq R2 hnl HWG HNE HRW HB hwl
          revert HR2 HL2 HG2
          generalize ws.set 0 (txt l q) = ws2
          intro HR2 HL2 HG2
          generalize txt l q = a at *
          go_wp2_with fail
          go_quiet (fail)
          go_wp2
          exact ⟨⟨1, ws2, by rfl, by omega, HL2, HG2, HN2, HR2, Below.drewN' HB2.out nq⟩, by simp only [intOf]; omega⟩
        · obtain ⟨i', hi'⟩ : ∃ i', i = i' + 1 := ⟨i - 1, by omega⟩
          have e1 : IntKind.i64.wrap ((i : Int) - 1) = (i' : Int) := by rw [wi _ (by unfold I64; omega)]; omega
          have hp0 : (0 : Int) ≤ (i' : Int) := by omega
          have hp1 : (i' : Int) < (l.length : Int) := by omega
          have c3 : W2.cell? ⟨gw, i', none⟩ = some (.string (txt l (ns.getD i' 0))) := by
            rw [cell_of_row W2 _ _ _ _ _ R2, sk_get _ _ (by rw [List.length_set]; omega), txt_set _ _ _ _ (by omega), if_neg (by omega), HWG.out i' (by omega)]
          have hgt : (0 : Int) < (i : Int) := by omega
          have hgd : decide (0 < i) = true := decide_eq_true h0
          by_cases hab : txt l q = txt l (ns.getD i' 0)
          · have HTW : Hid (∃ i, i + 1 < l.length ∧ tl (txt l (ns.getD i 0)) = tl (txt l (ns.getD (i + 1) 0))) := ⟨i', by omega, by rw [← hi', ← hq, hab]⟩
            rw [← hab] at c3
            clear hc hvf hq R2 hnl HWG HNE HRW HB hwl HG2 HR2 HL2 hab
            have HB3 : Hid (Below w.heap.size w W2) := HBL.out.trans (HB2.out.mono (by rw [HGW.out]; exact HBL.out.size))
            generalize txt l q = a at *
            clear hi'
            go_wp2_with fail
            go_quiet (fail)
            go_wp2
            go_ret2
            exact ⟨.inr (.inr (.inl ⟨h1n, HW.out, ns, HSR.out, HTW.out, rfl⟩)), Below.drewN' HB3.out nq⟩
          · have HN2 : Hid (∀ j, j + 1 < i + 1 → tl (txt l (ns.getD j 0)) ≠ tl (txt l (ns.getD (j + 1) 0))) := fun j hj => by
              by_cases h : j = i'
              · subst h
                rw [← hi', ← hq]; exact fun h => hab (tl_inj h).symm
              · exact HNE.out j (by omega)
            have hab' : ((txt l q).toList == (txt l (ns.getD i' 0)).toList) = false := str_off hab
            clear hab
            clear hc hvf hq R2 hnl HWG HNE HRW HB hwl
            revert HR2 HL2 HG2
            generalize ws.set i (txt l q) = ws2
            intro HR2 HL2 HG2
            generalize txt l q = a at *
            generalize txt l (ns.getD i' 0) = b' at *
            clear hi'
            go_wp2_with fail
            go_quiet (fail)
            go_wp2
            exact ⟨⟨i + 1, ws2, by rfl, by omega, HL2, HG2, HN2, HR2, Below.drewN' HB2.out nq⟩, by simp only [intOf]; omega⟩
      · have hi1 : ¬ ((i : Int) < (l.length : Int)) := by omega
        have hie : i = l.length := by omega
        have hwl := HWL.out
        have hws : ws = wdS l ns := by
          apply List.ext_getElem
          · rw [wdS_len HSR.out]; exact hwl
          · intro j h1 h2
            have e1 : ws[j] = txt ws j := by simp [txt, List.getD, h1]
            have e2 : (wdS l ns)[j] = txt (wdS l ns) j := by simp [txt, List.getD, h2]
            rw [e1, e2, wdS_get HSR.out j (by omega), HWG.out j (by omega)]
        have hwd := wdS_len HSR.out
        have HOK : Hid (NewOk l ns) := ⟨HSR.out, fun j hj => HNE.out j (by omega)⟩
        have hst : St (.slice (some ⟨gw, 0, none⟩) l.length l.length) (wdS l ns) wr := by
          refine .inr ⟨gw, 0, l.length, by rw [hwd], by omega, by unfold maxLen; omega, (Array.getElem?_eq_some_iff.1 HRW.out).1, fun j s hj => ?_⟩
          have hj2 : j < (wdS l ns).length := (List.getElem?_eq_some_iff.1 hj).1
          rw [Nat.zero_add, cell_of_row wr _ _ _ _ _ HRW.out, hws, sk_get _ _ hj2, ← txt_get hj2 |>.symm.trans hj |> Option.some.inj]
        have hsi : Si .i64 (.slice (some ⟨gn, 0, none⟩) l.length l.length) ns wr := HNS.out.keep (by have := HB.out.size; exact this) fun j hj _ => HB.out.block j (by cases hj; exact hgn)
        have CT : Hid _ := newTable_b (wdS l ns) (by omega) m HA.out.1 (fun s hs => by
          obtain ⟨k, hk, rfl⟩ := List.mem_map.1 hs
          have hk2 := List.mem_range.1 (HSR.out.perm.mem_iff.1 hk)
          exact HA.out.2 _ (List.mem_of_getElem? (txt_get hk2))) ns (by rw [HSR.out.len]; exact h1n) _ _ wr hst hsi w.heap.size (by have h1 := HBL.out.size; have h2 := HB.out.size; omega) (fun k hk => by cases hk; exact HGN.out)
        have HB4 : Hid (Below w.heap.size w wr) := HBL.out.trans (HB.out.mono (by rw [HGW.out]; exact HBL.out.size))
        have HT : Hid (∀ W, TabB w.heap.size W.heap.size wr.heap.size (ftT ((wdS l ns).map tl) ns m) W → Below wr.heap.size wr W → NewPb l w (.returned (.tuple #[.pointer (some ⟨W.heap.size, 0, none⟩), .int .i64 0])) (W.alloc (.cells #[.pointer (some ⟨wr.heap.size, 0, none⟩)] 86)) ∧ Below w.heap.size w (W.alloc (.cells #[.pointer (some ⟨wr.heap.size, 0, none⟩)] 86))) := fun W h1 h2 => by
          have hB : Below w.heap.size w W := HB4.out.trans (h2.mono HB4.out.size)
          refine ⟨.inr (.inr (.inr ⟨h1n, HW.out, ns, HOK.out, _, _, rfl, heap_alloc_new _ _, hB.size, ?_⟩)), hB.alloc hB.size _⟩
          rw [← HM.out]
          have h3 := h1.mono (K' := (W.alloc (.cells #[.pointer (some ⟨wr.heap.size, 0, none⟩)] 86)).heap.size) (by simp)
          exact h3.keep (by simp) fun j _ _ hj => heap_alloc_old _ _ (h := hj)
        clear hst hsi hws HWG HNE HRW HB hie HOK HBL
        go_wp2_with fail
        refine Calls.mono CT.out ?_
        rintro e W ⟨rfl, h2, h3⟩
        have HE : Hid _ := HT.out W h2 h3
        clear h2 h3
        go_wp2
        go_ret2
        exact HE.out
end Go.Proofs.Ytceaklefdahfkab
