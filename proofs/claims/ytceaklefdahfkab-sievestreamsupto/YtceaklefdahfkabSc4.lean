/- The document's Feed: what it lays. -/
import Derived.Test.YtceaklefdahfkabSc3
import Derived.Deep.DeepAppendRoom
import Derived.BigRegion
namespace Go.Proofs.Ytceaklefdahfkab
open Go.RowKit
/-- Bytes appended where there is room. -/
theorem ap_in (W : World) (base G n cap : Nat) (xs a : List Nat) (av : Value) (ho : W.ownsRow base 5 1 (.slice (some ⟨G, 0, none⟩) n cap) n (ik .u8 xs).toList) (ha : Si .u8 av a W) (hr : n + a.length ≤ cap) :
    ∃ W', (apB 23 #[.slice (some ⟨G, 0, none⟩) n cap, av]).run Try.prog W = .ok (.slice (some ⟨G, 0, none⟩) (n + a.length) cap) W' ∧ W'.ownsRow base 5 1 (.slice (some ⟨G, 0, none⟩) (n + a.length) cap) (n + a.length) (ik .u8 (xs ++ a)).toList ∧ W.grownBy W' (some G) := by
  obtain ⟨i0, hi0, hz0, hz1, hz2⟩ := info_parts info5
  rcases ha with ⟨rfl, rfl⟩ | ⟨b, off, c, rfl, h2, h3, h4, h5⟩
  · refine ⟨W, run_append_owned_none (P := Try.prog) W base 23 23 5 i0 1 Try.underlying23 hi0 _ n _ ho, ?_, ⟨rfl, rfl, rfl, Nat.le_refl _, fun _ _ _ => rfl⟩⟩
    rw [List.append_nil]; exact ho
  · obtain ⟨W', r, o, gr⟩ := run_append_own_spare (P := Try.prog) W base 23 23 5 i0 1 Try.underlying23 hi0 hz1 G n cap _ ho ⟨b, off, none⟩ a.length c (ik .u8 a).toList (by simp [ik]) (fun j u hu => by
      have hj : j < a.length := by have := (List.getElem?_eq_some_iff.1 hu).1; simpa [ik] using this
      rw [Array.getElem?_toList, ik_get _ _ j hj] at hu
      rw [← Option.some.inj hu, Go.WideShapes.add_plain]
      exact h5 j hj) (fun u hu => by
      have := ik_one .u8 a
      rw [Array.all_eq_true] at this
      obtain ⟨j, hj, rfl⟩ := List.getElem_of_mem hu
      simp only [Array.length_toList] at hj
      exact this j hj) hr
    have e : (ik .u8 xs).toList ++ (ik .u8 a).toList = (ik .u8 (xs ++ a)).toList := by simp [ik]
    rw [e] at o
    exact ⟨W', r, o, gr⟩
/-- Two lists laid behind one another in new memory. -/
theorem mk_all (W : World) (a p : List Nat) (av pv : Value) (ha : Si .u8 av a W) (hp : Si .u8 pv p W) (hl : a.length + p.length ≤ 1099511627776) :
    ∃ W1 W2 W3, (mkB (.int .i64 0) (.int .i64 ((a.length + p.length : Nat) : Int))).run Try.prog W = .ok (.slice (some ⟨W.heap.size, 0, none⟩) 0 (a.length + p.length)) W1 ∧
      (apB 23 #[.slice (some ⟨W.heap.size, 0, none⟩) 0 (a.length + p.length), av]).run Try.prog W1 = .ok (.slice (some ⟨W.heap.size, 0, none⟩) a.length (a.length + p.length)) W2 ∧
      (apB 23 #[.slice (some ⟨W.heap.size, 0, none⟩) a.length (a.length + p.length), pv]).run Try.prog W2 = .ok (.slice (some ⟨W.heap.size, 0, none⟩) (a.length + p.length) (a.length + p.length)) W3 ∧
      Below W.heap.size W W1 ∧ Below W.heap.size W W2 ∧ Below W.heap.size W W3 ∧ Si .u8 (.slice (some ⟨W.heap.size, 0, none⟩) (a.length + p.length) (a.length + p.length)) (a ++ p) W3 := by
  obtain ⟨i0, hi0, hz0, hz1, hz2⟩ := info_parts info5
  have hr := run_make (P := Try.prog) W 23 5 i0 _ (by kernel_rfl) hi0 hz0 .i64 .i64 0 ((a.length + p.length : Nat) : Int) (by omega) (by omega) (by rw [hz2]; omega) (by omega)
  rw [Int.toNat_natCast, hz1, Nat.mul_one] at hr
  obtain ⟨W1, hW1⟩ : ∃ W1, W.alloc (.cells (madeCells (Value.int .u8 0).cells (a.length + p.length)) 5) = W1 := ⟨_, rfl⟩
  rw [hW1] at hr
  have b1 : Below W.heap.size W W1 := by rw [← hW1]; exact (Below.refl _ W).alloc (Nat.le_refl _) _
  have o1 : W1.ownsRow W.heap.size 5 1 (.slice (some ⟨W.heap.size, 0, none⟩) 0 (a.length + p.length)) 0 (ik .u8 []).toList :=
    ⟨rfl, .inr ⟨W.heap.size, a.length + p.length, _, rfl, Nat.le_refl _, by rw [← hW1]; exact heap_alloc_new W _, by omega, by unfold maxLen; omega, by rw [size_madeCells, Nat.mul_one], by simp [ik]⟩⟩
  have gb : ∀ {U V : World}, Below W.heap.size W U → U.grownBy V (some W.heap.size) → Below W.heap.size W V := fun {U V} hb g => hb.trans ⟨g.os, g.tape, g.output, g.size, fun k hk => g.block k (by have := hb.size; omega) (fun e => by have := Option.some.inj e; omega)⟩
  obtain ⟨W2, r2, o2, g2⟩ := ap_in W1 W.heap.size W.heap.size 0 (a.length + p.length) [] a av o1 (ha.below b1) (by omega)
  rw [Nat.zero_add] at r2 o2
  have b2 := gb b1 g2
  obtain ⟨W3, r3, o3, g3⟩ := ap_in W2 W.heap.size W.heap.size a.length (a.length + p.length) ([] ++ a) p pv o2 (hp.below b2) (by omega)
  rw [List.nil_append] at o3
  exact ⟨W1, W2, W3, hr, r2, r3, b1, b2, gb b2 g3, own_si o3 (by simp)⟩
theorem run_cutE (g n p : Nat) (h : p ≤ n) (w : World) : (slB (.slice (some ⟨g, 0, none⟩) n n) (some (.int .i64 (p : Int))) none none).run Try.prog w = .ok (.slice (some ⟨g, if p < n then p else 0, none⟩) (n - p) (n - p)) w := by
  have := run_slice_l (P := Try.prog) w 23 (some ⟨g, 0, none⟩) n n u27 .i64 (p : Int) (by omega) (by omega)
  unfold slB
  rw [this, elem27, run_size1 w size5]
  simp only [Result.andThen, sliced, Int.toNat_natCast, Option.map_some, Nat.mul_one]
  by_cases hp : p < n
  · rw [if_neg (by omega), Go.WideShapes.add_plain, Nat.zero_add, if_pos hp]
  · rw [if_pos (by omega), if_neg hp]
/-- A hit moved. -/
def shf (n : Int) (x : Int × Int) : Int × Int := (x.1 + n, x.2)
theorem hc_set : ∀ (L : List (Int × Int)) (i : Nat) (z : Int), i < L.length → (hc L).set (i * 2) (.int .i64 z) = hc (L.set i (z, (L.getD i (0, 0)).2))
  | [], _, _, h => by simp at h
  | x :: L, 0, z, _ => by simp [hc]
  | x :: L, i + 1, z, h => by
    have ih := hc_set L i z (by simpa using h)
    rw [show (i + 1) * 2 = i * 2 + 1 + 1 by omega]
    have e1 : hc (x :: L) = .int .i64 x.1 :: .int .i64 x.2 :: hc L := by simp [hc]
    rw [e1, List.set_cons_succ, List.set_cons_succ, ih, List.set_cons_succ]
    simp [hc]
theorem set_hit {W : World} {base hb N cap : Nat} {L : List (Int × Int)} (ho : W.ownsRow base 39 2 (.slice (some ⟨hb, 0, none⟩) N cap) N (hc L)) (i : Nat) (hi : i < L.length) (z : Int) :
    (W.setCell ⟨hb, i * 2, none⟩ (.int .i64 z)).ownsRow base 39 2 (.slice (some ⟨hb, 0, none⟩) N cap) N (hc (L.set i (z, (L.getD i (0, 0)).2))) := by
  obtain ⟨h1, ⟨h2, _⟩ | ⟨g, cap', cur, hv, h3, h4, h5, h6, h7, h8⟩⟩ := ho
  · cases h2
  · cases hv
    refine ⟨by rw [← hc_set _ _ _ hi, List.length_set]; exact h1, .inr ⟨hb, cap, cur.setIfInBounds (i * 2) (.int .i64 z), rfl, h3, heap_setCell_same _ _ _ _ _ _ h4, h5, h6, by simp; exact h7, ?_⟩⟩
    rw [← hc_set _ _ _ hi, ← h8, Array.toList_setIfInBounds, List.take_set]
/-- The row of some hits. -/
theorem hit_row {W : World} {base N : Nat} {v : Value} {L : List (Int × Int)} (ho : W.ownsRow base 39 2 v N (hc L)) (h : 0 < N) : ∃ hb cap cur, v = .slice (some ⟨hb, 0, none⟩) N cap ∧ base ≤ hb ∧ W.heap[hb]? = some (.cells cur 39 (0, 0)) := by
  obtain ⟨h1, ⟨h2, h3⟩ | ⟨g, cap', cur, hv, h3, h4, h5, h6, h7, h8⟩⟩ := ho
  · omega
  · exact ⟨g, cap', cur, hv, h3, h4⟩
/-- The hits with the first of them moved. -/
def shl (n : Int) (H : List (Int × Int)) (i : Nat) : List (Int × Int) := (H.take i).map (shf n) ++ H.drop i
theorem shl_len (n : Int) (H : List (Int × Int)) (i : Nat) : (shl n H i).length = H.length := by simp [shl]; omega
theorem shl_get (n : Int) (H : List (Int × Int)) (i : Nat) (h : i < H.length) : (shl n H i).getD i (0, 0) = H.getD i (0, 0) := by
  have h1 : ((H.take i).map (shf n)).length = i := by simp; omega
  rw [shl, List.getD, List.getElem?_append_right (by omega), h1, Nat.sub_self, List.getElem?_drop, Nat.add_zero, ← List.getD]
theorem shl_succ (n : Int) (H : List (Int × Int)) (i : Nat) (h : i < H.length) : (shl n H i).set i ((H.getD i (0, 0)).1 + n, (H.getD i (0, 0)).2) = shl n H (i + 1) := by
  have h1 : ((H.take i).map (shf n)).length = i := by simp; omega
  have h2 : H.drop i = H[i] :: H.drop (i + 1) := List.drop_eq_getElem_cons h
  have h3 : H.getD i (0, 0) = H[i] := by simp [List.getD, h]
  rw [shl, List.set_append_right _ _ (by omega), h1, Nat.sub_self, h2, List.set_cons_zero, shl, List.take_succ_eq_append_getElem h, List.map_append, List.append_assoc, h3]
  rfl
theorem shl_all (n : Int) (H : List (Int × Int)) : shl n H H.length = H.map (shf n) := by simp [shl]
/-- All but one block stand. -/
structure But (gs : Nat) (w w' : World) : Prop where
  os : w'.os = w.os
  tape : w'.tape = w.tape
  output : w'.output = w.output
  size : w.heap.size ≤ w'.heap.size
  block : ∀ j, j < w.heap.size → j ≠ gs → w'.heap[j]? = w.heap[j]?
attribute [local go_sem ↓] toSlB toApB toMkB
set_option maxRecDepth 100000 in
set_option maxHeartbeats 3200000 in
theorem feedR_any (gs g m n : Nat) (sc : List Nat → List (Int × Int)) (a p : List Nat) (lvv pv : Value) (w : World) (hne : g ≠ gs) (hm : m ≤ 64) (hn : n ≤ 1125899906842624) (han : a.length ≤ n) (hal : a.length ≤ 64) (hpl : p.length ≤ 16777216)
    (hs : Rsc gs g lvv n w) (ha : Si .u8 lvv a w) (hp : Si .u8 pv p w) (hgz : g < w.heap.size) (hgw : w.cell? ⟨g, 257, none⟩ = some (.int .i64 (m : Int)))
    (CS : ∀ W v, Below w.heap.size w W → Si .u8 v (a ++ p) W → Calls Try.prog 62 #[.pointer (some ⟨g, 0, none⟩), v] W fun e w' => ∃ v', e = .returned v' ∧ w'.ownsRow W.heap.size 39 2 v' (sc (a ++ p)).length (hc (sc (a ++ p))) ∧ Below W.heap.size W w')
    (hsc : ∀ x ∈ sc (a ++ p), 0 ≤ x.1 ∧ x.1 ≤ 1125899906842624) :
    Calls Try.prog 30 #[.pointer (some ⟨gs, 0, none⟩), pv] w fun e w' => ∃ v lvv', e = .returned v ∧ w'.ownsRow w.heap.size 39 2 v (sc (a ++ p)).length (hc ((sc (a ++ p)).map (shf ((n - a.length : Nat) : Int)))) ∧
      Rsc gs g lvv' (n + p.length) w' ∧ Si .u8 lvv' (lastN m (a ++ p)) w' ∧ (∀ k, lvv'.ownBlock = some k → w.heap.size ≤ k) ∧ But gs w w' := by
  obtain ⟨W1, W2, W3, r1, r2, r3, b1, b2, b3, hall⟩ := mk_all w a p lvv pv ha hp (by omega)
  obtain ⟨oa, ca, rfl, _⟩ := ha.form
  obtain ⟨op, cp, rfl, _⟩ := hp.form
  have gsz : gs < w.heap.size := (Array.getElem?_eq_some_iff.1 hs).1
  obtain ⟨N, hN⟩ : ∃ N, N = a.length + p.length := ⟨_, rfl⟩
  have HN : Hid (N = a.length + p.length) := hN
  rw [← hN] at r1 r2 r3 hall
  have e1 : IntKind.i64.wrap ((a.length : Int) + (p.length : Int)) = (N : Int) := by rw [wi _ (by unfold I64; omega)]; omega
  obtain ⟨LV, hLV⟩ : ∃ LV, LV = Value.slice oa a.length ca := ⟨_, rfl⟩
  have cc : ∀ W, Below w.heap.size w W → W.cell? ⟨gs, 0, none⟩ = some (.pointer (some ⟨g, 0, none⟩)) ∧ W.cell? ⟨gs, 1, none⟩ = some (.slice oa a.length ca) ∧ W.cell? ⟨gs, 2, none⟩ = some (.int .i64 (n : Int)) := fun W hb => by
    have h0 : W.heap[gs]? = _ := (hb.block gs gsz).trans hs
    exact ⟨(cell_of_row W gs _ _ _ _ h0).trans rfl, (cell_of_row W gs _ _ _ _ h0).trans rfl, (cell_of_row W gs _ _ _ _ h0).trans rfl⟩
  have k0 := (cc w (Below.refl _ _)).2.1
  have k1 := (cc W1 b1).2.1
  have k3 := (cc W3 b3).1
  have CSW : Hid _ := CS W3 _ b3 hall
  have HCC : Hid _ := cc
  have HALL : Hid (Si .u8 (.slice (some ⟨w.heap.size, 0, none⟩) N N) (a ++ p) W3) := hall
  have HB3 : Hid (Below w.heap.size w W3) := b3
  have HSC : Hid _ := hsc
  have HW : Hid (w.cell? ⟨g, 257, none⟩ = some (.int .i64 (m : Int))) := hgw
  have HS : Hid (Rsc gs g (.slice oa a.length ca) n w) := hs
  generalize hH : sc (a ++ p) = H at *
  clear hLV CS hs ha hp hgw hsc b1 b2 b3 hall cc hN
  go_enter Try.func30, Try.ntmps30
  go_wp2_with fail
  refine Calls.mono CSW.out ?_
  rintro e W4 ⟨v4, rfl, ho4, hb4⟩
  obtain ⟨o4, c4, rfl, _⟩ := (hl_own ho4).1.form
  have HO4 : Hid (W4.ownsRow W3.heap.size 39 2 (.slice o4 H.length c4) H.length (hc (shl ((n - a.length : Nat) : Int) H 0))) := ho4
  have HB4 : Hid (Below W3.heap.size W3 W4) := hb4
  have HX : Hid (∀ i, i < H.length → 0 ≤ (H.getD i (0, 0)).1 ∧ (H.getD i (0, 0)).1 ≤ 1125899906842624) := fun i hi => HSC.out _ (by simp only [List.getD, List.getElem?_eq_getElem hi, Option.getD_some]; exact List.getElem_mem hi)
  clear ho4 hb4 CSW k0 k1 k3 r1 r2 r3
  obtain ⟨dd, hdd⟩ : ∃ dd : Int, dd = ((n - a.length : Nat) : Int) := ⟨_, rfl⟩
  have HDD : Hid (dd = (n : Int) - (a.length : Int)) := by show _ = _; omega
  have HDE : Hid (dd = ((n - a.length : Nat) : Int)) := hdd
  rw [← hdd] at HO4
  clear hdd
  go_wp2_with fail
  go_loopw [7] (fun iv wr => ∃ i : Nat, iv = .int .i64 (i : Int) ∧ i ≤ H.length ∧ Hid (wr.ownsRow W3.heap.size 39 2 (.slice o4 H.length c4) H.length (hc (shl dd H i))) ∧ Hid (Below W3.heap.size W3 wr)) (fun iv _ => H.length - (intOf iv).toNat)
  case atStart => exact ⟨0, rfl, by omega, HO4, HB4⟩
  case round =>
    clear HO4 HB4
    obtain ⟨i, rfl, hi, HO, HB⟩ := hrel
    have hBw : Below w.heap.size w wr := HB3.out.trans (HB.out.mono HB3.out.size)
    by_cases hlt : i < H.length
    · have hi0 : (0 : Int) ≤ (i : Int) := by omega
      have hi1 : (i : Int) < (H.length : Int) := by omega
      obtain ⟨hb, cap, cur, hv, hbb, hrow⟩ := hit_row HO.out (by omega)
      cases hv
      obtain ⟨x, hx⟩ : ∃ x, x = (H.getD i (0, 0)).1 := ⟨_, rfl⟩
      have hxr := HX.out i hlt
      rw [← hx] at hxr
      obtain ⟨D, hD⟩ : ∃ D, wr.drew = D := ⟨_, rfl⟩
      have hDh : D.heap = wr.heap := by rw [← hD]; rfl
      have hcell : wr.cell? ⟨hb, i * 2, none⟩ = some (.int .i64 x) := by
        have h1 := (hl_own HO.out).1
        rcases h1 with ⟨q1, _⟩ | ⟨b', off', cap', q1, _, _, _, q5⟩
        · cases q1
        · have q6 : hb = b' ∧ off' = 0 := by
            simp only [Value.slice.injEq, Option.some.injEq, Addr.mk.injEq] at q1
            exact ⟨q1.1.1, q1.1.2.1.symm⟩
          obtain ⟨rfl, rfl⟩ := q6
          have := (q5 i (by rw [shl_len]; exact hlt)).1
          rw [shl_get _ _ _ hlt, ← hx, Nat.zero_add] at this
          exact this
      have c1 : D.cell? ⟨hb, i * 2, none⟩ = some (.int .i64 x) := by rw [← hD]; exact hcell
      have f1 : D.frozen? ⟨hb, i * 2, none⟩ = false := by rw [← hD]; exact frozen_of_row wr _ _ _ _ hrow
      have c2 : D.cell? ⟨gs, 2, none⟩ = some (.int .i64 (n : Int)) := by rw [← hD]; exact (HCC.out wr hBw).2.2
      have c3 : D.cell? ⟨gs, 1, none⟩ = some (.slice oa a.length ca) := by rw [← hD]; exact (HCC.out wr hBw).2.1
      have w1 : IntKind.i64.wrap (x + (n : Int)) = x + (n : Int) := wi _ (by unfold I64; omega)
      have w2 : IntKind.i64.wrap (x + (n : Int) - (a.length : Int)) = x + dd := by rw [wi _ (by unfold I64; omega), HDD.out]; omega
      have HO2 : Hid ((D.setCell ⟨hb, i * 2, none⟩ (.int .i64 (x + dd))).ownsRow W3.heap.size 39 2 (.slice (some ⟨hb, 0, none⟩) H.length c4) H.length (hc (shl dd H (i + 1)))) := by
        have h0 : D.ownsRow W3.heap.size 39 2 (.slice (some ⟨hb, 0, none⟩) H.length c4) H.length (hc (shl dd H i)) := own_keep2 HO.out fun k _ => by rw [hDh]
        have h1 := set_hit h0 i (by rw [shl_len]; exact hlt) (x + dd)
        rw [shl_get _ _ _ hlt, hx, shl_succ _ _ _ hlt] at h1
        rw [hx]
        exact h1
      have HB2 : Hid (Below W3.heap.size W3 (D.setCell ⟨hb, i * 2, none⟩ (.int .i64 (x + dd)))) := Below.setCell (by rw [← hD]; exact Below.drewN' HB.out 1) hbb _
      clear hrow hcell HO HB hBw hx hDh HX HSC HCC
      go_wp2_with fail
      go_big_region
      go_wp2
      exact ⟨⟨i + 1, by rfl, by omega, HO2, HB2⟩, by simp only [intOf]; omega⟩
    · have hi1 : ¬ ((i : Int) < (H.length : Int)) := by omega
      have hrow : wr.heap[gs]? = some (.cells #[.pointer (some ⟨g, 0, none⟩), .slice oa a.length ca, .int .i64 (n : Int)] 105 (0, 0)) := (hBw.block gs gsz).trans HS.out
      have k2 : wr.cell? ⟨gs, 2, none⟩ = some (.int .i64 (n : Int)) := (cell_of_row wr gs _ _ _ _ hrow).trans rfl
      have f2 : wr.frozen? ⟨gs, 2, none⟩ = false := frozen_of_row wr _ _ _ _ hrow
      obtain ⟨n2, hn2⟩ : ∃ n2, n2 = n + p.length := ⟨_, rfl⟩
      have e4 : IntKind.i64.wrap ((n : Int) + (p.length : Int)) = (n2 : Int) := by rw [wi _ (by unfold I64; omega)]; omega
      obtain ⟨Wn, hWn⟩ : ∃ Wn, wr.setCell ⟨gs, 2, none⟩ (.int .i64 (n2 : Int)) = Wn := ⟨_, rfl⟩
      have hrown : Wn.heap[gs]? = some (.cells #[.pointer (some ⟨g, 0, none⟩), .slice oa a.length ca, .int .i64 (n2 : Int)] 105 (0, 0)) := by rw [← hWn]; exact (heap_setCell_same _ _ _ _ _ _ hrow).trans (by simp)
      have kn0 : Wn.cell? ⟨gs, 0, none⟩ = some (.pointer (some ⟨g, 0, none⟩)) := (cell_of_row Wn gs _ _ _ _ hrown).trans rfl
      have kn1 : Wn.cell? ⟨gs, 1, none⟩ = some (.slice oa a.length ca) := (cell_of_row Wn gs _ _ _ _ hrown).trans rfl
      have fn1 : Wn.frozen? ⟨gs, 1, none⟩ = false := frozen_of_row Wn _ _ _ _ hrown
      have hnb : ∀ j, j ≠ gs → Wn.heap[j]? = wr.heap[j]? := fun j hj => by rw [← hWn]; exact Below.heap_setCell _ _ _ _ hj
      have knw : Wn.cell? ⟨g, 257, none⟩ = some (.int .i64 (m : Int)) := (World.cell?_of_block (w := w) ((hnb g hne).trans (hBw.block g hgz))).trans HW.out
      have nsz : Wn.heap.size = wr.heap.size := by rw [← hWn]; simp [World.setCell]
      have FIN : Hid (∀ (lv2 : Value) (K oq : Nat), K = min (m - 1) N → lv2 = .slice (some ⟨w.heap.size, oq, none⟩) K K → (0 < K → oq = N - K) → ∃ v lvv', Value.slice o4 H.length c4 = v ∧ (Wn.setCell ⟨gs, 1, none⟩ lv2).ownsRow w.heap.size 39 2 v H.length (hc (H.map (shf ((n - a.length : Nat) : Int)))) ∧
          Rsc gs g lvv' (n + p.length) (Wn.setCell ⟨gs, 1, none⟩ lv2) ∧ Si .u8 lvv' (lastN m (a ++ p)) (Wn.setCell ⟨gs, 1, none⟩ lv2) ∧ (∀ k, lvv'.ownBlock = some k → w.heap.size ≤ k) ∧ But gs w (Wn.setCell ⟨gs, 1, none⟩ lv2)) := fun lv2 K oq hK hlv hoq => by
        subst hlv
        rw [← hn2]
        have hie : i = H.length := by omega
        have hz3 := HB3.out.size
        have hzr := hBw.size
        have hb2 : ∀ j, j ≠ gs → (Wn.setCell ⟨gs, 1, none⟩ (.slice (some ⟨w.heap.size, oq, none⟩) K K)).heap[j]? = wr.heap[j]? := fun j hj => (Below.heap_setCell _ _ _ _ hj).trans (hnb j hj)
        have hsz : (Wn.setCell ⟨gs, 1, none⟩ (.slice (some ⟨w.heap.size, oq, none⟩) K K)).heap.size = wr.heap.size := by rw [← nsz]; simp [World.setCell]
        refine ⟨_, .slice (some ⟨w.heap.size, oq, none⟩) K K, rfl, ?_, (heap_setCell_same _ _ _ _ _ _ hrown).trans (by simp), ?_, ?_, ?_⟩
        · have h1 := HO.out
          rw [hie, shl_all, HDE.out] at h1
          refine own_down (own_keep2 h1 fun k hk => hb2 k ?_) hz3
          have := (h1.lt k hk).1
          omega
        · have e0 : (a ++ p).length = N := by rw [List.length_append]; exact HN.out.symm
          unfold lastN
          rw [e0, ← hK]
          rcases HALL.out with ⟨q1, _⟩ | ⟨b', off', cap', q1, _, _, q4, q5⟩
          · cases q1
          · simp only [Value.slice.injEq, Option.some.injEq, Addr.mk.injEq] at q1
            obtain ⟨⟨q6, q7, _⟩, _, _⟩ := q1
            rw [← q6] at q4
            have hkl : ((a ++ p).drop (N - K)).length = K := by rw [List.length_drop, e0]; omega
            refine .inr ⟨w.heap.size, oq, K, by rw [hkl], by omega, by unfold maxLen; omega, by rw [hsz]; have := HB.out.size; omega, fun j hj => ?_⟩
            rw [hkl] at hj
            have h2 := q5 (N - K + j) (by rw [e0]; omega)
            rw [← q6, ← q7, Nat.zero_add] at h2
            rw [World.cell?_of_block (w := wr) (hb2 w.heap.size (by omega)), hoq (by omega), World.cell?_of_block (w := W3) (HB.out.block w.heap.size q4), h2]
            have : ((a ++ p).drop (N - K)).getD j 0 = (a ++ p).getD (N - K + j) 0 := by rw [List.getD, List.getElem?_drop, ← List.getD]
            rw [this]
        · intro k hk
          have : w.heap.size = k := by cases hk; rfl
          omega
        · refine ⟨?_, ?_, ?_, ?_, fun j hj hj2 => (hb2 j hj2).trans (hBw.block j hj)⟩
          · show Wn.os = _; rw [← hWn]; exact hBw.os
          · show Wn.tape = _; rw [← hWn]; exact hBw.tape
          · show Wn.output = _; rw [← hWn]; exact hBw.output
          · rw [hsz]; exact hzr
      have HNB : Hid (N ≤ 16777280) := by have := HN.out; show _ ≤ _; omega
      clear hrow hrown hnb hBw nsz hn2 HO HB HX HSC HCC HS hi hlt
      have ctE : ∀ K, K ≤ N → ∃ oq, (0 < K → oq = N - K) ∧ ∀ W, (slB (.slice (some ⟨w.heap.size, 0, none⟩) N N) (some (.int .i64 ((N - K : Nat) : Int))) none none).run Try.prog W = .ok (.slice (some ⟨w.heap.size, oq, none⟩) K K) W := fun K hK => by
        refine ⟨if N - K < N then N - K else 0, fun h => by rw [if_pos (by omega)], fun W => ?_⟩
        have := run_cutE w.heap.size N (N - K) (by omega) W
        rw [show N - (N - K) = K by omega] at this
        exact this
      have hnb2 := HNB.out
      by_cases hm0 : m = 0
      · subst hm0
        obtain ⟨oq, hoq, ct⟩ := ctE 0 (by omega)
        have HF : Hid _ := FIN.out (.slice (some ⟨w.heap.size, oq, none⟩) 0 0) 0 oq (by omega) rfl hoq
        have q1 : ¬ ((0 : Int) > (N : Int)) := by omega
        have e6 : IntKind.i64.wrap (N : Int) = (N : Int) := wi _ (by unfold I64; omega)
        rw [Nat.sub_zero] at ct
        clear FIN ctE hoq
        go_wp2
        go_ret
        obtain ⟨v, lvv', rfl, z2, z3⟩ := HF.out
        exact ⟨_, rfl, z2, lvv', z3⟩
      · obtain ⟨M1, hM1⟩ : ∃ M1, M1 = m - 1 := ⟨_, rfl⟩
        have e5 : IntKind.i64.wrap ((m : Int) - 1) = (M1 : Int) := by rw [wi _ (by unfold I64; omega)]; omega
        have q0 : ¬ ((M1 : Int) < 0) := by omega
        by_cases hq : N < M1
        · obtain ⟨oq, hoq, ct⟩ := ctE N (by omega)
          have HF : Hid _ := FIN.out (.slice (some ⟨w.heap.size, oq, none⟩) N N) N oq (by omega) rfl hoq
          have q1 : (M1 : Int) > (N : Int) := by omega
          rw [Nat.sub_self] at ct
          have ct0 : ∀ W, (slB (.slice (some ⟨w.heap.size, 0, none⟩) N N) (some (.int .i64 0)) none none).run Try.prog W = .ok (.slice (some ⟨w.heap.size, oq, none⟩) N N) W := ct
          have e6 : IntKind.i64.wrap ((N : Int) - (N : Int)) = 0 := by rw [wi _ (by unfold I64; omega)]; omega
          clear FIN ctE hoq ct hM1
          go_wp2
          go_ret
          obtain ⟨v, lvv', rfl, z2, z3⟩ := HF.out
          exact ⟨_, rfl, z2, lvv', z3⟩
        · obtain ⟨oq, hoq, ct⟩ := ctE M1 (by omega)
          have HF : Hid _ := FIN.out (.slice (some ⟨w.heap.size, oq, none⟩) M1 M1) M1 oq (by omega) rfl hoq
          have q1 : ¬ ((M1 : Int) > (N : Int)) := by omega
          obtain ⟨q2, hq2⟩ : ∃ q2, q2 = N - M1 := ⟨_, rfl⟩
          have e6 : IntKind.i64.wrap ((N : Int) - (M1 : Int)) = (q2 : Int) := by rw [wi _ (by unfold I64; omega)]; omega
          rw [← hq2] at ct
          clear hq2
          clear FIN ctE hoq hM1
          go_wp2
          go_ret
          obtain ⟨v, lvv', rfl, z2, z3⟩ := HF.out
          exact ⟨_, rfl, z2, lvv', z3⟩
end Go.Proofs.Ytceaklefdahfkab
