/- The document's rewriter: how it lies; Rewriter, Close. -/
import Derived.Test.YtceaklefdahfkabRd1
import Derived.Test.YtceaklefdahfkabBk1
namespace Go.Proofs.Ytceaklefdahfkab
open Go.RowKit
/-- The document's rewriter, as it lies. -/
def Rdw (gd g : Nat) (lv : Value) (n : Nat) (tv xv : Value) (pr hd : Int) (dn bd : Bool) (w : World) : Prop := w.heap[gd]? = some (.cells #[.pointer (some ⟨g, 0, none⟩), lv, .int .i64 (n : Int), tv, xv, .int .i64 pr, .int .i64 hd, .bool dn, .bool bd] 111 (0, 0))
/-- What the document's Rewriter answers. -/
def RdnP (m nv g : Nat) (T : List ByteArray) (B : Nat) (e : Ending) (w' : World) : Prop :=
  (T.length ≠ nv ∧ e = .returned (.tuple #[.pointer none, .int .i64 2])) ∨
  (T.length = nv ∧ allW m T = false ∧ e = .returned (.tuple #[.pointer none, .int .i64 50])) ∨
  (T.length = nv ∧ allW m T = true ∧ ∃ gd tv, e = .returned (.tuple #[.pointer (some ⟨gd, 0, none⟩), .int .i64 0]) ∧ B ≤ gd ∧ Rdw gd g (.slice none 0 0) 0 tv (.slice none 0 0) (-(m : Int)) 0 false false w' ∧ St tv T w' ∧ tv.ownBlock ≠ some gd)
attribute [local go_sem ↓] toApLs
set_option maxRecDepth 100000 in
set_option maxHeartbeats 1600000 in
theorem rwrD_any (g : Nat) (lvl : Value) (fv : Nat → Value) (l : List ByteArray) (F : Nat → List Nat) (m : Nat) (hm : m ≤ 64) (T : List ByteArray) (hTl : T.length ≤ 1048576) (hTs : ∀ s ∈ T, s.size ≤ 1099511627776) (tvl : Value) (w : World) (h : Rf g lvl fv l F m w) (hv : St tvl T w) :
    Calls Try.prog 37 #[.pointer (some ⟨g, 0, none⟩), tvl] w fun e w' => Below w.heap.size w w' ∧ RdnP m l.length g T w.heap.size e w' := by
  obtain ⟨ol, cl, hol⟩ := own_size h.ol
  subst hol
  have gz := h.gz
  have c0 : w.cell? ⟨g, 0, none⟩ = some (.slice ol l.length cl) := (cell_of_row w g 0 _ _ _ h.row).trans (rfC_0 _ _ _)
  have cw : w.cell? ⟨g, 257, none⟩ = some (.int .i64 (m : Int)) := (cell_of_row w g 257 _ _ _ h.row).trans (rfC_w _ _ _)
  obtain ⟨o, c, hof, _, _, hcf⟩ := hv.form
  subst hof
  have HCF : Hid _ := hcf
  have HV : Hid (St (.slice o T.length c) T w) := hv
  have HTS : Hid _ := hTs
  clear h hv hcf hTs
  by_cases hl : T.length = l.length
  · have HLL : Hid (T.length = l.length) := hl
    rw [← hl] at c0
    clear hl
    go_enter Try.func37, Try.ntmps37
    go_wp2_with fail
    go_loopw [6] (fun iv wr => ∃ k : Nat, iv = .int .i64 (k : Int) ∧ k ≤ T.length ∧ Hid (allW m (T.take k) = true) ∧ Below w.heap.size w wr) (fun iv _ => T.length - (intOf iv).toNat)
    case atStart => exact ⟨0, rfl, by omega, rfl, Below.refl _ _⟩
    case round =>
      obtain ⟨k, rfl, hk, HA, hbl⟩ := hrel
      have cw2 : wr.cell? ⟨g, 257, none⟩ = some (.int .i64 (m : Int)) := (World.cell?_of_block (w := w) (hbl.block g gz)).trans cw
      have HB : Hid (Below w.heap.size w wr) := hbl
      by_cases hlt : k < T.length
      · have hk0 : (0 : Int) ≤ (k : Int) := by omega
        have hk1 : (k : Int) < (T.length : Int) := by omega
        obtain ⟨s, hs⟩ : ∃ s, T[k]? = some s := ⟨_, List.getElem?_eq_getElem hlt⟩
        obtain ⟨b, off, rfl, hb, hc⟩ := HCF.out (by omega)
        have cs : wr.cell? ⟨b, off + k, none⟩ = some (.string s) := (World.cell?_of_block (w := w) (hbl.block b hb)).trans (hc k s hs)
        have hss := HTS.out s (List.mem_of_getElem? hs)
        clear hc hbl
        by_cases he : s.size = m
        · have he' : (s.size : Int) = (m : Int) := by omega
          have HA1 : Hid (allW m (T.take (k + 1)) = true) := by show _ = _; rw [all_take hs, HA.out, he]; simp
          clear hs HA he
          go_wp2_with fail
          go_quiet (fail)
          go_wp2
          exact ⟨⟨k + 1, by rfl, by omega, HA1, Below.drewN' HB.out _⟩, by simp only [intOf]; omega⟩
        · have he' : ¬ ((s.size : Int) = (m : Int)) := by omega
          have HF : Hid (allW m T = false) := all_stop hs he
          have HE : Hid (∀ q e, e = .returned (.tuple #[.pointer none, .int .i64 50]) → Below w.heap.size w (wr.drewN q) ∧ RdnP m l.length g T w.heap.size e (wr.drewN q)) := fun q e hq => ⟨Below.drewN' HB.out q, .inr (.inl ⟨HLL.out, HF.out, hq⟩)⟩
          clear hs HA he
          go_wp2_with fail
          go_quiet (fail)
          go_wp2
          go_ret2
          exact HE.out _ _ rfl
      · have hk1 : ¬ ((k : Int) < (T.length : Int)) := by omega
        have HF : Hid (allW m T = true) := by have := HA.out; rw [List.take_of_length_le (by omega)] at this; exact this
        obtain ⟨v', w', r, ho2, hb2⟩ := run_apLs wr wr.heap.size 0 22 (.slice none 0 0) [] T _ (World.ownsRow_nil _ _ _ _) (HV.out.below hbl) (by omega) (Nat.le_refl _)
        have hst : St v' T w' := own_st ho2 (by simp)
        have hbw : Below w.heap.size w w' := hbl.trans (hb2.mono hbl.size)
        have cw3 : w'.cell? ⟨g, 257, none⟩ = some (.int .i64 (m : Int)) := (World.cell?_of_block (w := w) (hbw.block g gz)).trans cw
        obtain ⟨o2, c2, hv2⟩ := own_size ho2
        subst hv2
        have en : IntKind.i64.wrap (-(m : Int)) = -(m : Int) := by rw [wi _ (by unfold I64; omega)]
        have HE : Hid (∀ W e, W.heap[w'.heap.size]? = some (.cells #[.pointer (some ⟨g, 0, none⟩), .slice none 0 0, .int .i64 ((0 : Nat) : Int), .slice o2 (0 + T.length) c2, .slice none 0 0, .int .i64 (-(m : Int)), .int .i64 0, .bool false, .bool false] 111 (0, 0)) → Below w'.heap.size w' W → e = .returned (.tuple #[.pointer (some ⟨w'.heap.size, 0, none⟩), .int .i64 0]) → Below w.heap.size w W ∧ RdnP m l.length g T w.heap.size e W) := fun W e hr hb he => by
          refine ⟨hbw.trans (hb.mono hbw.size), .inr (.inr ⟨HLL.out, HF.out, w'.heap.size, _, he, hbw.size, hr, hst.below hb, fun e2 => ?_⟩)⟩
          have hlt2 := (ho2.lt _ e2).2
          omega
        clear hst hbw ho2 hb2 hbl HA HF
        rw [Nat.zero_add] at r HE
        go_wp2
        go_ret2
        exact HE.out _ _ (heap_alloc_new _ _) ((Below.refl _ _).alloc (Nat.le_refl _) _) rfl
  · have hl' : ¬ ((T.length : Int) = (l.length : Int)) := by omega
    go_enter Try.func37, Try.ntmps37
    go_wp2
    go_ret2
    exact ⟨Below.refl _ _, .inl ⟨hl, rfl⟩⟩
set_option maxRecDepth 100000 in
theorem closeD_any (gd g : Nat) (lv : Value) (n : Nat) (tv : Value) (ox : Option Addr) (lx cx : Nat) (pr hd : Int) (w : World) (h : Rdw gd g lv n tv (.slice ox lx cx) pr hd false false w) :
    Calls Try.prog 70 #[.pointer (some ⟨gd, 0, none⟩)] w fun e w' => e = .returned (.tuple #[.slice ox lx cx, .int .i64 0, .int .i64 0]) ∧ But gd w w' := by
  have c7 : w.cell? ⟨gd, 7, none⟩ = some (.bool false) := (cell_of_row w gd 7 _ _ _ h).trans rfl
  have c8 : w.cell? ⟨gd, 8, none⟩ = some (.bool false) := (cell_of_row w gd 8 _ _ _ h).trans rfl
  have f7 : w.frozen? ⟨gd, 7, none⟩ = false := frozen_of_row w _ _ _ _ h
  obtain ⟨W1, hW1⟩ : ∃ W1, w.setCell ⟨gd, 7, none⟩ (.bool true) = W1 := ⟨_, rfl⟩
  have h1 : Rdw gd g lv n tv (.slice ox lx cx) pr hd true false W1 := by rw [← hW1]; exact (heap_setCell_same _ _ _ _ _ _ h).trans rfl
  have c6 : W1.cell? ⟨gd, 6, none⟩ = some (.int .i64 hd) := (cell_of_row W1 gd 6 _ _ _ h1).trans rfl
  have f6 : W1.frozen? ⟨gd, 6, none⟩ = false := frozen_of_row W1 _ _ _ _ h1
  obtain ⟨W2, hW2⟩ : ∃ W2, W1.setCell ⟨gd, 6, none⟩ (.int .i64 0) = W2 := ⟨_, rfl⟩
  have h2 : Rdw gd g lv n tv (.slice ox lx cx) pr 0 true false W2 := by rw [← hW2]; exact (heap_setCell_same _ _ _ _ _ _ h1).trans rfl
  have c4 : W2.cell? ⟨gd, 4, none⟩ = some (.slice ox lx cx) := (cell_of_row W2 gd 4 _ _ _ h2).trans rfl
  have f4 : W2.frozen? ⟨gd, 4, none⟩ = false := frozen_of_row W2 _ _ _ _ h2
  have HB : Hid (But gd w (W2.setCell ⟨gd, 4, none⟩ (.slice none 0 0))) := by
    rw [← hW2, ← hW1]
    refine ⟨rfl, rfl, rfl, by simp [World.setCell], fun j hj hn => ?_⟩
    rw [heap_setCell_other _ _ _ _ hn, heap_setCell_other _ _ _ _ hn, heap_setCell_other _ _ _ _ hn]
  clear h h1 h2
  go_enter Try.func70, Try.ntmps70
  go_wp2
  go_ret3
  exact ⟨rfl, HB.out⟩
/-- The first place that lies too near, as the document looks for it. -/
def dcP (m : Int) : Int → List (Int × Int) → Option Int
  | _, [] => none
  | p, x :: r => if x.1 - p < m then some x.1 else dcP m x.1 r
theorem dcP_ov (m : Int) : ∀ (r : List (Int × Int)) (l : List (Int × Int)) (i : Nat) (p : Int), 0 < i → l.drop i = r → p = (l.getD (i - 1) (0, 0)).1 → dcP m p r = if 0 < ovR l m r.length i then some (l.getD (ovR l m r.length i).toNat (0, 0)).1 else none
  | [], l, i, p, hi, hd, hp => by simp [dcP, ovR]
  | x :: r, l, i, p, hi, hd, hp => by
    have hlt : i < l.length := by
      rcases Nat.lt_or_ge i l.length with h | h
      · exact h
      · rw [List.drop_of_length_le h] at hd; cases hd
    have hx : l.getD i (0, 0) = x := by
      have := List.drop_eq_getElem_cons hlt
      rw [hd] at this
      have e := (List.cons.inj this).1
      simp [List.getD, hlt, e]
    have hr : l.drop (i + 1) = r := by
      have := List.drop_eq_getElem_cons hlt
      rw [hd] at this
      exact (List.cons.inj this).2.symm
    rw [dcP, List.length_cons, ovR, hx, ← hp]
    by_cases hc : x.1 - p < m
    · rw [if_pos hc, if_pos hc, if_pos (by omega), Int.toNat_natCast, hx]
    · rw [if_neg hc, if_neg hc]
      exact dcP_ov m r l (i + 1) x.1 (by omega) hr (by rw [Nat.add_sub_cancel, hx])
/-- Both look for the same. -/
theorem dcP_ovP (m : Nat) (H : List (Int × Int)) : dcP (m : Int) (-(m : Int)) H = if (ovP 0 m H).2 = true then some (ovP 0 m H).1 else none := by
  cases H with
  | nil => simp [dcP, ovP, ov, ovR]
  | cons x r =>
    have h0 : ((x :: r).getD 0 (0, 0)) = x := rfl
    have e : ov (x :: r) (m : Int) = ovR (x :: r) (m : Int) r.length 1 := by unfold ov; simp
    have hd := dcP_ov m r (x :: r) 1 x.1 (by omega) rfl rfl
    rw [dcP]
    by_cases hc : x.1 < 0
    · have hv : ovP 0 m (x :: r) = (x.1, true) := by unfold ovP; rw [h0, if_pos ⟨by simp, hc⟩]
      rw [hv, if_pos (by omega)]
      rfl
    · by_cases hq : 0 < ovR (x :: r) (m : Int) r.length 1
      · have hv : ovP 0 m (x :: r) = (((x :: r).getD (ovR (x :: r) (m : Int) r.length 1).toNat (0, 0)).1, true) := by unfold ovP; rw [h0, if_neg (fun h => hc h.2), e, if_pos hq]
        rw [hv, if_neg (by omega), hd, if_pos hq]
        rfl
      · have hv : ovP 0 m (x :: r) = (0, false) := by unfold ovP; rw [h0, if_neg (fun h => hc h.2), e, if_neg hq]
        rw [hv, if_neg (by omega), hd, if_neg hq]
        rfl
/-- Cuts of bytes. -/
theorem cut_h {v : Value} {l : List Nat} {w : World} (h : Si .u8 v l w) (k : Nat) (hk : k ≤ l.length) : ∃ o c, (∀ W, (slB v none (some (.int .i64 (k : Int))) none).run Try.prog W = .ok (.slice o k c) W) ∧ Si .u8 (.slice o k c) (l.take k) w := by
  rcases h with ⟨rfl, rfl⟩ | ⟨b, off, c, rfl, h2, h3, h4, h5⟩
  · have hk0 : k = 0 := by simpa using hk
    subst hk0
    refine ⟨none, 0, fun W => ?_, .inl ⟨rfl, by simp⟩⟩
    have := run_slice_h (P := Try.prog) W 23 none 0 0 u27 .i64 0 (by omega) (by omega)
    unfold slB
    exact this.trans (by simp [elem27, run_size1 W size5, Result.andThen, sliced])
  · have hl : (l.take k).length = k := by rw [List.length_take]; omega
    refine ⟨some ⟨b, off, none⟩, c, fun W => run_cutH b off l.length c k (by omega) W, .inr ⟨b, off, c, by rw [hl], by omega, h3, h4, fun j hj => ?_⟩⟩
    rw [hl] at hj
    rw [h5 j (by omega)]
    simp [List.getD, hj]
theorem cut_l {v : Value} {l : List Nat} {w : World} (h : Si .u8 v l w) (k : Nat) (hk : k ≤ l.length) : ∃ o n c, (∀ W, (slB v (some (.int .i64 (k : Int))) none none).run Try.prog W = .ok (.slice o n c) W) ∧ Si .u8 (.slice o n c) (l.drop k) w := by
  rcases h with ⟨rfl, rfl⟩ | ⟨b, off, c, rfl, h2, h3, h4, h5⟩
  · have hk0 : k = 0 := by simpa using hk
    subst hk0
    refine ⟨none, 0, 0, fun W => ?_, .inl ⟨rfl, by simp⟩⟩
    have := run_slice_l (P := Try.prog) W 23 none 0 0 u27 .i64 0 (by omega) (by omega)
    unfold slB
    exact this.trans (by simp [elem27, run_size1 W size5, Result.andThen, sliced])
  · have hl : (l.drop k).length = l.length - k := by rw [List.length_drop]
    have hrun : ∀ W, (slB (.slice (some ⟨b, off, none⟩) l.length c) (some (.int .i64 (k : Int))) none none).run Try.prog W = .ok (.slice (some ⟨b, off + (if k < c then k else 0), none⟩) (l.length - k) (c - k)) W := fun W => by
      have := run_slice_l (P := Try.prog) W 23 (some ⟨b, off, none⟩) l.length c u27 .i64 (k : Int) (by omega) (by omega)
      unfold slB
      rw [this, elem27, run_size1 W size5]
      simp only [Result.andThen, sliced, Int.toNat_natCast, Option.map_some, Nat.mul_one]
      by_cases hq : k < c
      · rw [if_neg (by omega), Go.WideShapes.add_plain, if_pos hq]
      · rw [if_pos (by omega), if_neg hq, Nat.add_zero]
    refine ⟨_, _, _, hrun, .inr ⟨b, off + (if k < c then k else 0), c - k, by rw [hl], by omega, by omega, h4, fun j hj => ?_⟩⟩
    rw [hl] at hj
    rw [if_pos (by omega), show off + k + j = off + (k + j) by omega, h5 (k + j) (by omega)]
    simp [List.getD, List.getElem?_drop]
end Go.Proofs.Ytceaklefdahfkab
