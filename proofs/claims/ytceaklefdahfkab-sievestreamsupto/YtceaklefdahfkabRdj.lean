/- Several texts in one: Rd1, Rd2, Rd3, Rd6, Ct1, Rw7, Ct2, Rd4. -/
import Derived.Test.YtceaklefdahfkabSc6
import Derived.Test.YtceaklefdahfkabMkj
import Derived.Deep.RegionWith
import Derived.Deep.DrawnRows
import Derived.BigRegion
import Derived.Test.YtceaklefdahfkabRwj
/- The document's scanner within a greater object: Feed, Held. -/
namespace Go.Proofs.Ytceaklefdahfkab
open Go.RowKit
/-- The document's scanner at the head of a block. -/
def Rsg (X : List Value) (ty gs g : Nat) (lv : Value) (n : Nat) (w : World) : Prop := w.heap[gs]? = some (.cells (.pointer (some ⟨g, 0, none⟩) :: lv :: .int .i64 (n : Int) :: X).toArray ty (0, 0))
attribute [local go_sem ↓] toSlB toApB toMkB
set_option maxRecDepth 100000 in
set_option maxHeartbeats 3200000 in
theorem feedR_gen (X : List Value) (ty gs g m n : Nat) (sc : List Nat → List (Int × Int)) (a p : List Nat) (lvv pv : Value) (w : World) (hne : g ≠ gs) (hm : m ≤ 64) (hn : n ≤ 1125899906842624) (han : a.length ≤ n) (hal : a.length ≤ 64) (hpl : p.length ≤ 16777216)
    (hs : Rsg X ty gs g lvv n w) (ha : Si .u8 lvv a w) (hp : Si .u8 pv p w) (hgz : g < w.heap.size) (hgw : w.cell? ⟨g, 257, none⟩ = some (.int .i64 (m : Int)))
    (CS : ∀ W v, Below w.heap.size w W → Si .u8 v (a ++ p) W → Calls Try.prog 62 #[.pointer (some ⟨g, 0, none⟩), v] W fun e w' => ∃ v', e = .returned v' ∧ w'.ownsRow W.heap.size 39 2 v' (sc (a ++ p)).length (hc (sc (a ++ p))) ∧ Below W.heap.size W w')
    (hsc : ∀ x ∈ sc (a ++ p), 0 ≤ x.1 ∧ x.1 ≤ 1125899906842624) :
    Calls Try.prog 30 #[.pointer (some ⟨gs, 0, none⟩), pv] w fun e w' => ∃ v lvv', e = .returned v ∧ w'.ownsRow w.heap.size 39 2 v (sc (a ++ p)).length (hc ((sc (a ++ p)).map (shf ((n - a.length : Nat) : Int)))) ∧
      Rsg X ty gs g lvv' (n + p.length) w' ∧ Si .u8 lvv' (lastN m (a ++ p)) w' ∧ (∀ k, lvv'.ownBlock = some k → w.heap.size ≤ k) ∧ But gs w w' := by
  obtain ⟨W1, W2, W3, r1, r2, r3, b1, b2, b3, hall⟩ := mk_all w a p lvv pv ha hp (by omega)
  obtain ⟨oa, ca, rfl, _⟩ := ha.form
  obtain ⟨op, cp, rfl, _⟩ := hp.form
  have gsz : gs < w.heap.size := (Array.getElem?_eq_some_iff.1 hs).1
  obtain ⟨N, hN⟩ : ∃ N, N = a.length + p.length := ⟨_, rfl⟩
  have HN : Hid (N = a.length + p.length) := hN
  rw [← hN] at r1 r2 r3 hall
  have e1 : IntKind.i64.wrap ((a.length : Int) + (p.length : Int)) = (N : Int) := by rw [wi _ (by unfold I64; omega)]; omega
  obtain ⟨LV, hLV⟩ : ∃ LV, LV = Value.slice oa a.length ca := ⟨_, rfl⟩
  have cc : ∀ W, Below w.heap.size w W → W.cell? ⟨gs, 0, none⟩ = some (.pointer (some ⟨g, 0, none⟩)) ∧ W.cell? ⟨gs, 1, none⟩ = some (.slice oa a.length ca) ∧ W.cell? ⟨gs, 2, none⟩ = some (.int .i64 (n : Int)) := fun W hb => by
    have h0 : W.heap[gs]? = _ := (hb.block gs gsz).trans hs
    exact ⟨(cell_of_row W gs _ _ _ _ h0).trans (by simp), (cell_of_row W gs _ _ _ _ h0).trans (by simp), (cell_of_row W gs _ _ _ _ h0).trans (by simp)⟩
  have k0 := (cc w (Below.refl _ _)).2.1
  have k1 := (cc W1 b1).2.1
  have k3 := (cc W3 b3).1
  have CSW : Hid _ := CS W3 _ b3 hall
  have HCC : Hid _ := cc
  have HALL : Hid (Si .u8 (.slice (some ⟨w.heap.size, 0, none⟩) N N) (a ++ p) W3) := hall
  have HB3 : Hid (Below w.heap.size w W3) := b3
  have HSC : Hid _ := hsc
  have HW : Hid (w.cell? ⟨g, 257, none⟩ = some (.int .i64 (m : Int))) := hgw
  have HS : Hid (Rsg X ty gs g (.slice oa a.length ca) n w) := hs
  generalize hH : sc (a ++ p) = H at *
  clear hLV CS hs ha hp hgw hsc b1 b2 b3 hall cc hN
  go_enter Try.func30, Try.ntmps30
  go_wp2_with fail
  refine Calls.mono CSW.out ?_
  rintro e W4 ⟨v4, rfl, ho4, hb4⟩
  obtain ⟨o4, c4, rfl, _⟩ := (hl_own ho4).1.form
  have HO4 : Hid (W4.ownsRow W3.heap.size 39 2 (.slice o4 H.length c4) H.length (hc (shl ((n - a.length : Nat) : Int) H 0))) := ho4
  have HB4 : Hid (Below W3.heap.size W3 W4) := hb4
  have HX : Hid (∀ i, i < H.length → 0 ≤ (H.getD i (0, 0)).1 ∧ (H.getD i (0, 0)).1 ≤ 1125899906842624) := fun i hi => HSC.out _ (by simp only [List.getD, List.getElem?_eq_getElem hi, Option.getD_some]; exact List.getElem_mem hi)
  clear ho4 hb4 CSW k0 k1 k3 r1 r2 r3
  obtain ⟨dd, hdd⟩ : ∃ dd : Int, dd = ((n - a.length : Nat) : Int) := ⟨_, rfl⟩
  have HDD : Hid (dd = (n : Int) - (a.length : Int)) := by show _ = _; omega
  have HDE : Hid (dd = ((n - a.length : Nat) : Int)) := hdd
  rw [← hdd] at HO4
  clear hdd
  go_wp2_with fail
  go_loopw [7] (fun iv wr => ∃ i : Nat, iv = .int .i64 (i : Int) ∧ i ≤ H.length ∧ Hid (wr.ownsRow W3.heap.size 39 2 (.slice o4 H.length c4) H.length (hc (shl dd H i))) ∧ Hid (Below W3.heap.size W3 wr)) (fun iv _ => H.length - (intOf iv).toNat)
  case atStart => exact ⟨0, rfl, by omega, HO4, HB4⟩
  case round =>
    clear HO4 HB4
    obtain ⟨i, rfl, hi, HO, HB⟩ := hrel
    have hBw : Below w.heap.size w wr := HB3.out.trans (HB.out.mono HB3.out.size)
    by_cases hlt : i < H.length
    · have hi0 : (0 : Int) ≤ (i : Int) := by omega
      have hi1 : (i : Int) < (H.length : Int) := by omega
      obtain ⟨hb, cap, cur, hv, hbb, hrow⟩ := hit_row HO.out (by omega)
      cases hv
      obtain ⟨x, hx⟩ : ∃ x, x = (H.getD i (0, 0)).1 := ⟨_, rfl⟩
      have hxr := HX.out i hlt
      rw [← hx] at hxr
      obtain ⟨D, hD⟩ : ∃ D, wr.drew = D := ⟨_, rfl⟩
      have hDh : D.heap = wr.heap := by rw [← hD]; rfl
      have hcell : wr.cell? ⟨hb, i * 2, none⟩ = some (.int .i64 x) := by
        have h1 := (hl_own HO.out).1
        rcases h1 with ⟨q1, _⟩ | ⟨b', off', cap', q1, _, _, _, q5⟩
        · cases q1
        · have q6 : hb = b' ∧ off' = 0 := by
            simp only [Value.slice.injEq, Option.some.injEq, Addr.mk.injEq] at q1
            exact ⟨q1.1.1, q1.1.2.1.symm⟩
          obtain ⟨rfl, rfl⟩ := q6
          have := (q5 i (by rw [shl_len]; exact hlt)).1
          rw [shl_get _ _ _ hlt, ← hx, Nat.zero_add] at this
          exact this
      have c1 : D.cell? ⟨hb, i * 2, none⟩ = some (.int .i64 x) := by rw [← hD]; exact hcell
      have f1 : D.frozen? ⟨hb, i * 2, none⟩ = false := by rw [← hD]; exact frozen_of_row wr _ _ _ _ hrow
      have c2 : D.cell? ⟨gs, 2, none⟩ = some (.int .i64 (n : Int)) := by rw [← hD]; exact (HCC.out wr hBw).2.2
      have c3 : D.cell? ⟨gs, 1, none⟩ = some (.slice oa a.length ca) := by rw [← hD]; exact (HCC.out wr hBw).2.1
      have w1 : IntKind.i64.wrap (x + (n : Int)) = x + (n : Int) := wi _ (by unfold I64; omega)
      have w2 : IntKind.i64.wrap (x + (n : Int) - (a.length : Int)) = x + dd := by rw [wi _ (by unfold I64; omega), HDD.out]; omega
      have HO2 : Hid ((D.setCell ⟨hb, i * 2, none⟩ (.int .i64 (x + dd))).ownsRow W3.heap.size 39 2 (.slice (some ⟨hb, 0, none⟩) H.length c4) H.length (hc (shl dd H (i + 1)))) := by
        have h0 : D.ownsRow W3.heap.size 39 2 (.slice (some ⟨hb, 0, none⟩) H.length c4) H.length (hc (shl dd H i)) := own_keep2 HO.out fun k _ => by rw [hDh]
        have h1 := set_hit h0 i (by rw [shl_len]; exact hlt) (x + dd)
        rw [shl_get _ _ _ hlt, hx, shl_succ _ _ _ hlt] at h1
        rw [hx]
        exact h1
      have HB2 : Hid (Below W3.heap.size W3 (D.setCell ⟨hb, i * 2, none⟩ (.int .i64 (x + dd)))) := Below.setCell (by rw [← hD]; exact Below.drewN' HB.out 1) hbb _
      clear hrow hcell HO HB hBw hx hDh HX HSC HCC
      go_wp2_with fail
      go_big_region
      go_wp2
      exact ⟨⟨i + 1, by rfl, by omega, HO2, HB2⟩, by simp only [intOf]; omega⟩
    · have hi1 : ¬ ((i : Int) < (H.length : Int)) := by omega
      have hrow : wr.heap[gs]? = some (.cells (.pointer (some ⟨g, 0, none⟩) :: .slice oa a.length ca :: .int .i64 (n : Int) :: X).toArray ty (0, 0)) := (hBw.block gs gsz).trans HS.out
      have k2 : wr.cell? ⟨gs, 2, none⟩ = some (.int .i64 (n : Int)) := (cell_of_row wr gs _ _ _ _ hrow).trans (by simp)
      have f2 : wr.frozen? ⟨gs, 2, none⟩ = false := frozen_of_row wr _ _ _ _ hrow
      obtain ⟨n2, hn2⟩ : ∃ n2, n2 = n + p.length := ⟨_, rfl⟩
      have e4 : IntKind.i64.wrap ((n : Int) + (p.length : Int)) = (n2 : Int) := by rw [wi _ (by unfold I64; omega)]; omega
      obtain ⟨Wn, hWn⟩ : ∃ Wn, wr.setCell ⟨gs, 2, none⟩ (.int .i64 (n2 : Int)) = Wn := ⟨_, rfl⟩
      have hrown : Wn.heap[gs]? = some (.cells (.pointer (some ⟨g, 0, none⟩) :: .slice oa a.length ca :: .int .i64 (n2 : Int) :: X).toArray ty (0, 0)) := by rw [← hWn]; exact (heap_setCell_same _ _ _ _ _ _ hrow).trans (by simp)
      have kn0 : Wn.cell? ⟨gs, 0, none⟩ = some (.pointer (some ⟨g, 0, none⟩)) := (cell_of_row Wn gs _ _ _ _ hrown).trans (by simp)
      have kn1 : Wn.cell? ⟨gs, 1, none⟩ = some (.slice oa a.length ca) := (cell_of_row Wn gs _ _ _ _ hrown).trans (by simp)
      have fn1 : Wn.frozen? ⟨gs, 1, none⟩ = false := frozen_of_row Wn _ _ _ _ hrown
      have hnb : ∀ j, j ≠ gs → Wn.heap[j]? = wr.heap[j]? := fun j hj => by rw [← hWn]; exact Below.heap_setCell _ _ _ _ hj
      have knw : Wn.cell? ⟨g, 257, none⟩ = some (.int .i64 (m : Int)) := (World.cell?_of_block (w := w) ((hnb g hne).trans (hBw.block g hgz))).trans HW.out
      have nsz : Wn.heap.size = wr.heap.size := by rw [← hWn]; simp [World.setCell]
      have FIN : Hid (∀ (lv2 : Value) (K oq : Nat), K = min (m - 1) N → lv2 = .slice (some ⟨w.heap.size, oq, none⟩) K K → (0 < K → oq = N - K) → ∃ v lvv', Value.slice o4 H.length c4 = v ∧ (Wn.setCell ⟨gs, 1, none⟩ lv2).ownsRow w.heap.size 39 2 v H.length (hc (H.map (shf ((n - a.length : Nat) : Int)))) ∧
          Rsg X ty gs g lvv' (n + p.length) (Wn.setCell ⟨gs, 1, none⟩ lv2) ∧ Si .u8 lvv' (lastN m (a ++ p)) (Wn.setCell ⟨gs, 1, none⟩ lv2) ∧ (∀ k, lvv'.ownBlock = some k → w.heap.size ≤ k) ∧ But gs w (Wn.setCell ⟨gs, 1, none⟩ lv2)) := fun lv2 K oq hK hlv hoq => by
        subst hlv
        rw [← hn2]
        have hie : i = H.length := by omega
        have hz3 := HB3.out.size
        have hzr := hBw.size
        have hb2 : ∀ j, j ≠ gs → (Wn.setCell ⟨gs, 1, none⟩ (.slice (some ⟨w.heap.size, oq, none⟩) K K)).heap[j]? = wr.heap[j]? := fun j hj => (Below.heap_setCell _ _ _ _ hj).trans (hnb j hj)
        have hsz : (Wn.setCell ⟨gs, 1, none⟩ (.slice (some ⟨w.heap.size, oq, none⟩) K K)).heap.size = wr.heap.size := by rw [← nsz]; simp [World.setCell]
        refine ⟨_, .slice (some ⟨w.heap.size, oq, none⟩) K K, rfl, ?_, (heap_setCell_same _ _ _ _ _ _ hrown).trans (by simp), ?_, ?_, ?_⟩
        · have h1 := HO.out
          rw [hie, shl_all, HDE.out] at h1
          refine own_down (own_keep2 h1 fun k hk => hb2 k ?_) hz3
          have := (h1.lt k hk).1
          omega
        · have e0 : (a ++ p).length = N := by rw [List.length_append]; exact HN.out.symm
          unfold lastN
          rw [e0, ← hK]
          rcases HALL.out with ⟨q1, _⟩ | ⟨b', off', cap', q1, _, _, q4, q5⟩
          · cases q1
          · simp only [Value.slice.injEq, Option.some.injEq, Addr.mk.injEq] at q1
            obtain ⟨⟨q6, q7, _⟩, _, _⟩ := q1
            rw [← q6] at q4
            have hkl : ((a ++ p).drop (N - K)).length = K := by rw [List.length_drop, e0]; omega
            refine .inr ⟨w.heap.size, oq, K, by rw [hkl], by omega, by unfold maxLen; omega, by rw [hsz]; have := HB.out.size; omega, fun j hj => ?_⟩
            rw [hkl] at hj
            have h2 := q5 (N - K + j) (by rw [e0]; omega)
            rw [← q6, ← q7, Nat.zero_add] at h2
            rw [World.cell?_of_block (w := wr) (hb2 w.heap.size (by omega)), hoq (by omega), World.cell?_of_block (w := W3) (HB.out.block w.heap.size q4), h2]
            have : ((a ++ p).drop (N - K)).getD j 0 = (a ++ p).getD (N - K + j) 0 := by rw [List.getD, List.getElem?_drop, ← List.getD]
            rw [this]
        · intro k hk
          have : w.heap.size = k := by cases hk; rfl
          omega
        · refine ⟨?_, ?_, ?_, ?_, fun j hj hj2 => (hb2 j hj2).trans (hBw.block j hj)⟩
          · show Wn.os = _; rw [← hWn]; exact hBw.os
          · show Wn.tape = _; rw [← hWn]; exact hBw.tape
          · show Wn.output = _; rw [← hWn]; exact hBw.output
          · rw [hsz]; exact hzr
      have HNB : Hid (N ≤ 16777280) := by have := HN.out; show _ ≤ _; omega
      clear hrow hrown hnb hBw nsz hn2 HO HB HX HSC HCC HS hi hlt
      have ctE : ∀ K, K ≤ N → ∃ oq, (0 < K → oq = N - K) ∧ ∀ W, (slB (.slice (some ⟨w.heap.size, 0, none⟩) N N) (some (.int .i64 ((N - K : Nat) : Int))) none none).run Try.prog W = .ok (.slice (some ⟨w.heap.size, oq, none⟩) K K) W := fun K hK => by
        refine ⟨if N - K < N then N - K else 0, fun h => by rw [if_pos (by omega)], fun W => ?_⟩
        have := run_cutE w.heap.size N (N - K) (by omega) W
        rw [show N - (N - K) = K by omega] at this
        exact this
      have hnb2 := HNB.out
      by_cases hm0 : m = 0
      · subst hm0
        obtain ⟨oq, hoq, ct⟩ := ctE 0 (by omega)
        have HF : Hid _ := FIN.out (.slice (some ⟨w.heap.size, oq, none⟩) 0 0) 0 oq (by omega) rfl hoq
        have q1 : ¬ ((0 : Int) > (N : Int)) := by omega
        have e6 : IntKind.i64.wrap (N : Int) = (N : Int) := wi _ (by unfold I64; omega)
        rw [Nat.sub_zero] at ct
        clear FIN ctE hoq
        go_wp2
        go_ret
        obtain ⟨v, lvv', rfl, z2, z3⟩ := HF.out
        exact ⟨_, rfl, z2, lvv', z3⟩
      · obtain ⟨M1, hM1⟩ : ∃ M1, M1 = m - 1 := ⟨_, rfl⟩
        have e5 : IntKind.i64.wrap ((m : Int) - 1) = (M1 : Int) := by rw [wi _ (by unfold I64; omega)]; omega
        have q0 : ¬ ((M1 : Int) < 0) := by omega
        by_cases hq : N < M1
        · obtain ⟨oq, hoq, ct⟩ := ctE N (by omega)
          have HF : Hid _ := FIN.out (.slice (some ⟨w.heap.size, oq, none⟩) N N) N oq (by omega) rfl hoq
          have q1 : (M1 : Int) > (N : Int) := by omega
          rw [Nat.sub_self] at ct
          have ct0 : ∀ W, (slB (.slice (some ⟨w.heap.size, 0, none⟩) N N) (some (.int .i64 0)) none none).run Try.prog W = .ok (.slice (some ⟨w.heap.size, oq, none⟩) N N) W := ct
          have e6 : IntKind.i64.wrap ((N : Int) - (N : Int)) = 0 := by rw [wi _ (by unfold I64; omega)]; omega
          clear FIN ctE hoq ct hM1
          go_wp2
          go_ret
          obtain ⟨v, lvv', rfl, z2, z3⟩ := HF.out
          exact ⟨_, rfl, z2, lvv', z3⟩
        · obtain ⟨oq, hoq, ct⟩ := ctE M1 (by omega)
          have HF : Hid _ := FIN.out (.slice (some ⟨w.heap.size, oq, none⟩) M1 M1) M1 oq (by omega) rfl hoq
          have q1 : ¬ ((M1 : Int) > (N : Int)) := by omega
          obtain ⟨q2, hq2⟩ : ∃ q2, q2 = N - M1 := ⟨_, rfl⟩
          have e6 : IntKind.i64.wrap ((N : Int) - (M1 : Int)) = (q2 : Int) := by rw [wi _ (by unfold I64; omega)]; omega
          rw [← hq2] at ct
          clear hq2
          clear FIN ctE hoq hM1
          go_wp2
          go_ret
          obtain ⟨v, lvv', rfl, z2, z3⟩ := HF.out
          exact ⟨_, rfl, z2, lvv', z3⟩
/-- Held, by what 'held' answers at every world alike. -/
theorem heldR_gen (X : List Value) (ty gs g : Nat) (lv : Value) (n k : Nat) (w : World) (h : Rsg X ty gs g lv n w) (C : ∀ W, Below w.heap.size w W → Calls Try.prog 63 #[.pointer (some ⟨g, 0, none⟩), lv] W fun e w' => e = .returned (.int .i64 (k : Int)) ∧ Below W.heap.size W w') :
    Calls Try.prog 34 #[.pointer (some ⟨gs, 0, none⟩)] w fun e w' => e = .returned (.int .i64 (k : Int)) ∧ Below w.heap.size w w' := by
  have c0 : w.cell? ⟨gs, 0, none⟩ = some (.pointer (some ⟨g, 0, none⟩)) := (cell_of_row w gs _ _ _ _ h).trans (by simp)
  have c1 : w.cell? ⟨gs, 1, none⟩ = some lv := (cell_of_row w gs _ _ _ _ h).trans (by simp)
  have HC : Hid _ := C
  clear h C
  go_enter Try.func34, Try.ntmps34
  go_wp2_with fail
  go_region_with ((go_at_call 63; refine Calls.mono (HC.out _ (by first | exact Below.refl _ _ | exact Below.drewN' (Below.refl _ _) _ | exact Below.drewN' (Below.refl _ _) 1)) ?_; rintro e w' ⟨rfl, hb'⟩; have HB' : Hid (Below w.heap.size w w') := (Below.trans (by first | exact Below.refl _ _ | exact Below.drewN' (Below.refl _ _) _ | exact Below.drewN' (Below.refl _ _) 1) (hb'.mono (Nat.le_refl _))); clear hb'))
  all_goals
    go_wp2
    go_ret
    exact ⟨rfl, HB'.out⟩
/-- The document's Feed. -/
theorem feedD_gen (X : List Value) (ty : Nat) (l : List ByteArray) (m : Nat) (hp : Pt l m) (hnd : (l.map tl).Nodup) (gs g : Nat) (lv : Value) (fv : Nat → Value) (y p : List Nat) (hyb : Byt y) (hpb : Byt p) (hy : y.length ≤ 1125899906842624) (hpl : p.length ≤ 16777216) (lvv pv : Value) (w : World) (hne : g ≠ gs) (hs : Rsg X ty gs g lvv y.length w) (ha : Si .u8 lvv (lastN m y) w) (hpv : Si .u8 pv p w) (hR : Rf g lv fv l (fst (l.map tl)) m w) :
    Calls Try.prog 30 #[.pointer (some ⟨gs, 0, none⟩), pv] w fun e w' => ∃ v lvv', e = .returned v ∧ w'.ownsRow w.heap.size 39 2 v (hit2 (l.map tl) m y p).length (hc (hit2 (l.map tl) m y p)) ∧
      Rsg X ty gs g lvv' (y ++ p).length w' ∧ Si .u8 lvv' (lastN m (y ++ p)) w' ∧ (∀ k, lvv'.ownBlock = some k → w.heap.size ≤ k) ∧ But gs w w' := by
  have hl := lastN_len m y
  have hm1 := hp.m1
  have hb2 : Byt (lastN m y ++ p) := fun x hx => by
    rcases List.mem_append.1 hx with h | h
    · exact hyb x (List.mem_of_mem_drop h)
    · exact hpb x h
  have hlen : (lastN m y ++ p).length ≤ 1073741824 := by rw [List.length_append, hl]; omega
  have := feedR_gen X ty gs g m y.length (hts (l.map tl) m) (lastN m y) p lvv pv w hne hm1 hy (by omega) (by omega) hpl hs ha hpv hR.gz ((cell_of_row w g _ _ _ _ hR.row).trans (rfC_w _ _ _))
    (fun W v hb hv => scanR_own g lv fv l m hp.m0 hm1 hp.ln hnd _ hb2 hlen v W (hR.below hb) hv)
    (fun x hx => by
      unfold hts at hx
      obtain ⟨i, hi, hx⟩ := List.mem_flatMap.1 hx
      rw [List.mem_range] at hi
      unfold htA at hx
      by_cases h : ((lastN m y ++ p).drop i).take m ∈ l.map tl
      · rw [if_pos h, List.mem_singleton] at hx
        subst hx
        exact ⟨by simp, by simp only; omega⟩
      · rw [if_neg h] at hx; cases hx)
  rw [lastN_app] at this
  have e2 : (hit2 (l.map tl) m y p).length = (hts (l.map tl) m (lastN m y ++ p)).length := by rw [hit2, List.length_map]
  rw [e2, List.length_append]
  exact this
end Go.Proofs.Ytceaklefdahfkab

/- The document's rewriter: how it lies; Rewriter, Close. -/
namespace Go.Proofs.Ytceaklefdahfkab
open Go.RowKit
/-- The document's rewriter, as it lies. -/
def Rdw (gd g : Nat) (lv : Value) (n : Nat) (tv xv : Value) (pr hd : Int) (dn bd : Bool) (w : World) : Prop := w.heap[gd]? = some (.cells #[.pointer (some ⟨g, 0, none⟩), lv, .int .i64 (n : Int), tv, xv, .int .i64 pr, .int .i64 hd, .bool dn, .bool bd] 111 (0, 0))
/-- What the document's Rewriter answers. -/
def RdnP (m nv g : Nat) (T : List ByteArray) (B : Nat) (e : Ending) (w' : World) : Prop :=
  (T.length ≠ nv ∧ e = .returned (.tuple #[.pointer none, .int .i64 2])) ∨
  (T.length = nv ∧ allW m T = false ∧ e = .returned (.tuple #[.pointer none, .int .i64 50])) ∨
  (T.length = nv ∧ allW m T = true ∧ ∃ gd tv, e = .returned (.tuple #[.pointer (some ⟨gd, 0, none⟩), .int .i64 0]) ∧ B ≤ gd ∧ Rdw gd g (.slice none 0 0) 0 tv (.slice none 0 0) (-(m : Int)) 0 false false w' ∧ St tv T w' ∧ tv.ownBlock ≠ some gd)
attribute [local go_sem ↓] toApLs
set_option maxRecDepth 100000 in
set_option maxHeartbeats 1600000 in
theorem rwrD_any (g : Nat) (lvl : Value) (fv : Nat → Value) (l : List ByteArray) (F : Nat → List Nat) (m : Nat) (hm : m ≤ 64) (T : List ByteArray) (hTl : T.length ≤ 1048576) (hTs : ∀ s ∈ T, s.size ≤ 1099511627776) (tvl : Value) (w : World) (h : Rf g lvl fv l F m w) (hv : St tvl T w) :
    Calls Try.prog 37 #[.pointer (some ⟨g, 0, none⟩), tvl] w fun e w' => Below w.heap.size w w' ∧ RdnP m l.length g T w.heap.size e w' := by
  obtain ⟨ol, cl, hol⟩ := own_size h.ol
  subst hol
  have gz := h.gz
  have c0 : w.cell? ⟨g, 0, none⟩ = some (.slice ol l.length cl) := (cell_of_row w g 0 _ _ _ h.row).trans (rfC_0 _ _ _)
  have cw : w.cell? ⟨g, 257, none⟩ = some (.int .i64 (m : Int)) := (cell_of_row w g 257 _ _ _ h.row).trans (rfC_w _ _ _)
  obtain ⟨o, c, hof, _, _, hcf⟩ := hv.form
  subst hof
  have HCF : Hid _ := hcf
  have HV : Hid (St (.slice o T.length c) T w) := hv
  have HTS : Hid _ := hTs
  clear h hv hcf hTs
  by_cases hl : T.length = l.length
  · have HLL : Hid (T.length = l.length) := hl
    rw [← hl] at c0
    clear hl
    go_enter Try.func37, Try.ntmps37
    go_wp2_with fail
    go_loopw [6] (fun iv wr => ∃ k : Nat, iv = .int .i64 (k : Int) ∧ k ≤ T.length ∧ Hid (allW m (T.take k) = true) ∧ Below w.heap.size w wr) (fun iv _ => T.length - (intOf iv).toNat)
    case atStart => exact ⟨0, rfl, by omega, rfl, Below.refl _ _⟩
    case round =>
      obtain ⟨k, rfl, hk, HA, hbl⟩ := hrel
      have cw2 : wr.cell? ⟨g, 257, none⟩ = some (.int .i64 (m : Int)) := (World.cell?_of_block (w := w) (hbl.block g gz)).trans cw
      have HB : Hid (Below w.heap.size w wr) := hbl
      by_cases hlt : k < T.length
      · have hk0 : (0 : Int) ≤ (k : Int) := by omega
        have hk1 : (k : Int) < (T.length : Int) := by omega
        obtain ⟨s, hs⟩ : ∃ s, T[k]? = some s := ⟨_, List.getElem?_eq_getElem hlt⟩
        obtain ⟨b, off, rfl, hb, hc⟩ := HCF.out (by omega)
        have cs : wr.cell? ⟨b, off + k, none⟩ = some (.string s) := (World.cell?_of_block (w := w) (hbl.block b hb)).trans (hc k s hs)
        have hss := HTS.out s (List.mem_of_getElem? hs)
        clear hc hbl
        by_cases he : s.size = m
        · have he' : (s.size : Int) = (m : Int) := by omega
          have HA1 : Hid (allW m (T.take (k + 1)) = true) := by show _ = _; rw [all_take hs, HA.out, he]; simp
          clear hs HA he
          go_wp2_with fail
          go_quiet (fail)
          go_wp2
          exact ⟨⟨k + 1, by rfl, by omega, HA1, Below.drewN' HB.out _⟩, by simp only [intOf]; omega⟩
        · have he' : ¬ ((s.size : Int) = (m : Int)) := by omega
          have HF : Hid (allW m T = false) := all_stop hs he
          have HE : Hid (∀ q e, e = .returned (.tuple #[.pointer none, .int .i64 50]) → Below w.heap.size w (wr.drewN q) ∧ RdnP m l.length g T w.heap.size e (wr.drewN q)) := fun q e hq => ⟨Below.drewN' HB.out q, .inr (.inl ⟨HLL.out, HF.out, hq⟩)⟩
          clear hs HA he
          go_wp2_with fail
          go_quiet (fail)
          go_wp2
          go_ret2
          exact HE.out _ _ rfl
      · have hk1 : ¬ ((k : Int) < (T.length : Int)) := by omega
        have HF : Hid (allW m T = true) := by have := HA.out; rw [List.take_of_length_le (by omega)] at this; exact this
        obtain ⟨v', w', r, ho2, hb2⟩ := run_apLs wr wr.heap.size 0 22 (.slice none 0 0) [] T _ (World.ownsRow_nil _ _ _ _) (HV.out.below hbl) (by omega) (Nat.le_refl _)
        have hst : St v' T w' := own_st ho2 (by simp)
        have hbw : Below w.heap.size w w' := hbl.trans (hb2.mono hbl.size)
        have cw3 : w'.cell? ⟨g, 257, none⟩ = some (.int .i64 (m : Int)) := (World.cell?_of_block (w := w) (hbw.block g gz)).trans cw
        obtain ⟨o2, c2, hv2⟩ := own_size ho2
        subst hv2
        have en : IntKind.i64.wrap (-(m : Int)) = -(m : Int) := by rw [wi _ (by unfold I64; omega)]
        have HE : Hid (∀ W e, W.heap[w'.heap.size]? = some (.cells #[.pointer (some ⟨g, 0, none⟩), .slice none 0 0, .int .i64 ((0 : Nat) : Int), .slice o2 (0 + T.length) c2, .slice none 0 0, .int .i64 (-(m : Int)), .int .i64 0, .bool false, .bool false] 111 (0, 0)) → Below w'.heap.size w' W → e = .returned (.tuple #[.pointer (some ⟨w'.heap.size, 0, none⟩), .int .i64 0]) → Below w.heap.size w W ∧ RdnP m l.length g T w.heap.size e W) := fun W e hr hb he => by
          refine ⟨hbw.trans (hb.mono hbw.size), .inr (.inr ⟨HLL.out, HF.out, w'.heap.size, _, he, hbw.size, hr, hst.below hb, fun e2 => ?_⟩)⟩
          have hlt2 := (ho2.lt _ e2).2
          omega
        clear hst hbw ho2 hb2 hbl HA HF
        rw [Nat.zero_add] at r HE
        go_wp2
        go_ret2
        exact HE.out _ _ (heap_alloc_new _ _) ((Below.refl _ _).alloc (Nat.le_refl _) _) rfl
  · have hl' : ¬ ((T.length : Int) = (l.length : Int)) := by omega
    go_enter Try.func37, Try.ntmps37
    go_wp2
    go_ret2
    exact ⟨Below.refl _ _, .inl ⟨hl, rfl⟩⟩
set_option maxRecDepth 100000 in
theorem closeD_any (gd g : Nat) (lv : Value) (n : Nat) (tv : Value) (ox : Option Addr) (lx cx : Nat) (pr hd : Int) (w : World) (h : Rdw gd g lv n tv (.slice ox lx cx) pr hd false false w) :
    Calls Try.prog 70 #[.pointer (some ⟨gd, 0, none⟩)] w fun e w' => e = .returned (.tuple #[.slice ox lx cx, .int .i64 0, .int .i64 0]) ∧ But gd w w' := by
  have c7 : w.cell? ⟨gd, 7, none⟩ = some (.bool false) := (cell_of_row w gd 7 _ _ _ h).trans rfl
  have c8 : w.cell? ⟨gd, 8, none⟩ = some (.bool false) := (cell_of_row w gd 8 _ _ _ h).trans rfl
  have f7 : w.frozen? ⟨gd, 7, none⟩ = false := frozen_of_row w _ _ _ _ h
  obtain ⟨W1, hW1⟩ : ∃ W1, w.setCell ⟨gd, 7, none⟩ (.bool true) = W1 := ⟨_, rfl⟩
  have h1 : Rdw gd g lv n tv (.slice ox lx cx) pr hd true false W1 := by rw [← hW1]; exact (heap_setCell_same _ _ _ _ _ _ h).trans rfl
  have c6 : W1.cell? ⟨gd, 6, none⟩ = some (.int .i64 hd) := (cell_of_row W1 gd 6 _ _ _ h1).trans rfl
  have f6 : W1.frozen? ⟨gd, 6, none⟩ = false := frozen_of_row W1 _ _ _ _ h1
  obtain ⟨W2, hW2⟩ : ∃ W2, W1.setCell ⟨gd, 6, none⟩ (.int .i64 0) = W2 := ⟨_, rfl⟩
  have h2 : Rdw gd g lv n tv (.slice ox lx cx) pr 0 true false W2 := by rw [← hW2]; exact (heap_setCell_same _ _ _ _ _ _ h1).trans rfl
  have c4 : W2.cell? ⟨gd, 4, none⟩ = some (.slice ox lx cx) := (cell_of_row W2 gd 4 _ _ _ h2).trans rfl
  have f4 : W2.frozen? ⟨gd, 4, none⟩ = false := frozen_of_row W2 _ _ _ _ h2
  have HB : Hid (But gd w (W2.setCell ⟨gd, 4, none⟩ (.slice none 0 0))) := by
    rw [← hW2, ← hW1]
    refine ⟨rfl, rfl, rfl, by simp [World.setCell], fun j hj hn => ?_⟩
    rw [heap_setCell_other _ _ _ _ hn, heap_setCell_other _ _ _ _ hn, heap_setCell_other _ _ _ _ hn]
  clear h h1 h2
  go_enter Try.func70, Try.ntmps70
  go_wp2
  go_ret3
  exact ⟨rfl, HB.out⟩
/-- The first place that lies too near, as the document looks for it. -/
def dcP (m : Int) : Int → List (Int × Int) → Option Int
  | _, [] => none
  | p, x :: r => if x.1 - p < m then some x.1 else dcP m x.1 r
theorem dcP_ov (m : Int) : ∀ (r : List (Int × Int)) (l : List (Int × Int)) (i : Nat) (p : Int), 0 < i → l.drop i = r → p = (l.getD (i - 1) (0, 0)).1 → dcP m p r = if 0 < ovR l m r.length i then some (l.getD (ovR l m r.length i).toNat (0, 0)).1 else none
  | [], l, i, p, hi, hd, hp => by simp [dcP, ovR]
  | x :: r, l, i, p, hi, hd, hp => by
    have hlt : i < l.length := by
      rcases Nat.lt_or_ge i l.length with h | h
      · exact h
      · rw [List.drop_of_length_le h] at hd; cases hd
    have hx : l.getD i (0, 0) = x := by
      have := List.drop_eq_getElem_cons hlt
      rw [hd] at this
      have e := (List.cons.inj this).1
      simp [List.getD, hlt, e]
    have hr : l.drop (i + 1) = r := by
      have := List.drop_eq_getElem_cons hlt
      rw [hd] at this
      exact (List.cons.inj this).2.symm
    rw [dcP, List.length_cons, ovR, hx, ← hp]
    by_cases hc : x.1 - p < m
    · rw [if_pos hc, if_pos hc, if_pos (by omega), Int.toNat_natCast, hx]
    · rw [if_neg hc, if_neg hc]
      exact dcP_ov m r l (i + 1) x.1 (by omega) hr (by rw [Nat.add_sub_cancel, hx])
/-- Both look for the same. -/
theorem dcP_ovP (m : Nat) (H : List (Int × Int)) : dcP (m : Int) (-(m : Int)) H = if (ovP 0 m H).2 = true then some (ovP 0 m H).1 else none := by
  cases H with
  | nil => simp [dcP, ovP, ov, ovR]
  | cons x r =>
    have h0 : ((x :: r).getD 0 (0, 0)) = x := rfl
    have e : ov (x :: r) (m : Int) = ovR (x :: r) (m : Int) r.length 1 := by unfold ov; simp
    have hd := dcP_ov m r (x :: r) 1 x.1 (by omega) rfl rfl
    rw [dcP]
    by_cases hc : x.1 < 0
    · have hv : ovP 0 m (x :: r) = (x.1, true) := by unfold ovP; rw [h0, if_pos ⟨by simp, hc⟩]
      rw [hv, if_pos (by omega)]
      rfl
    · by_cases hq : 0 < ovR (x :: r) (m : Int) r.length 1
      · have hv : ovP 0 m (x :: r) = (((x :: r).getD (ovR (x :: r) (m : Int) r.length 1).toNat (0, 0)).1, true) := by unfold ovP; rw [h0, if_neg (fun h => hc h.2), e, if_pos hq]
        rw [hv, if_neg (by omega), hd, if_pos hq]
        rfl
      · have hv : ovP 0 m (x :: r) = (0, false) := by unfold ovP; rw [h0, if_neg (fun h => hc h.2), e, if_neg hq]
        rw [hv, if_neg (by omega), hd, if_neg hq]
        rfl
/-- Cuts of bytes. -/
theorem cut_h {v : Value} {l : List Nat} {w : World} (h : Si .u8 v l w) (k : Nat) (hk : k ≤ l.length) : ∃ o c, (∀ W, (slB v none (some (.int .i64 (k : Int))) none).run Try.prog W = .ok (.slice o k c) W) ∧ Si .u8 (.slice o k c) (l.take k) w := by
  rcases h with ⟨rfl, rfl⟩ | ⟨b, off, c, rfl, h2, h3, h4, h5⟩
  · have hk0 : k = 0 := by simpa using hk
    subst hk0
    refine ⟨none, 0, fun W => ?_, .inl ⟨rfl, by simp⟩⟩
    have := run_slice_h (P := Try.prog) W 23 none 0 0 u27 .i64 0 (by omega) (by omega)
    unfold slB
    exact this.trans (by simp [elem27, run_size1 W size5, Result.andThen, sliced])
  · have hl : (l.take k).length = k := by rw [List.length_take]; omega
    refine ⟨some ⟨b, off, none⟩, c, fun W => run_cutH b off l.length c k (by omega) W, .inr ⟨b, off, c, by rw [hl], by omega, h3, h4, fun j hj => ?_⟩⟩
    rw [hl] at hj
    rw [h5 j (by omega)]
    simp [List.getD, hj]
theorem cut_l {v : Value} {l : List Nat} {w : World} (h : Si .u8 v l w) (k : Nat) (hk : k ≤ l.length) : ∃ o n c, (∀ W, (slB v (some (.int .i64 (k : Int))) none none).run Try.prog W = .ok (.slice o n c) W) ∧ Si .u8 (.slice o n c) (l.drop k) w := by
  rcases h with ⟨rfl, rfl⟩ | ⟨b, off, c, rfl, h2, h3, h4, h5⟩
  · have hk0 : k = 0 := by simpa using hk
    subst hk0
    refine ⟨none, 0, 0, fun W => ?_, .inl ⟨rfl, by simp⟩⟩
    have := run_slice_l (P := Try.prog) W 23 none 0 0 u27 .i64 0 (by omega) (by omega)
    unfold slB
    exact this.trans (by simp [elem27, run_size1 W size5, Result.andThen, sliced])
  · have hl : (l.drop k).length = l.length - k := by rw [List.length_drop]
    have hrun : ∀ W, (slB (.slice (some ⟨b, off, none⟩) l.length c) (some (.int .i64 (k : Int))) none none).run Try.prog W = .ok (.slice (some ⟨b, off + (if k < c then k else 0), none⟩) (l.length - k) (c - k)) W := fun W => by
      have := run_slice_l (P := Try.prog) W 23 (some ⟨b, off, none⟩) l.length c u27 .i64 (k : Int) (by omega) (by omega)
      unfold slB
      rw [this, elem27, run_size1 W size5]
      simp only [Result.andThen, sliced, Int.toNat_natCast, Option.map_some, Nat.mul_one]
      by_cases hq : k < c
      · rw [if_neg (by omega), Go.WideShapes.add_plain, if_pos hq]
      · rw [if_pos (by omega), if_neg hq, Nat.add_zero]
    refine ⟨_, _, _, hrun, .inr ⟨b, off + (if k < c then k else 0), c - k, by rw [hl], by omega, by omega, h4, fun j hj => ?_⟩⟩
    rw [hl] at hj
    rw [if_pos (by omega), show off + k + j = off + (k + j) by omega, h5 (k + j) (by omega)]
    simp [List.getD, List.getElem?_drop]
end Go.Proofs.Ytceaklefdahfkab

/- The document's rewriter: Feed of one that has taken nothing. -/
namespace Go.Proofs.Ytceaklefdahfkab
open Go.RowKit
/-- What the document's Feed answers. -/
def RdF (gd g m : Nat) (T : List ByteArray) (p : List Nat) (H : List (Int × Int)) (hh : Nat) (tv : Value) (B : Nat) (e : Ending) (w' : World) : Prop :=
  (∃ a, dcP (m : Int) (-(m : Int)) H = some a ∧ e = .returned (.tuple #[.slice none 0 0, .int .i64 52, .int .i64 a])) ∨
  (dcP (m : Int) (-(m : Int)) H = none ∧ ∃ v lvv ox lx cx pr, e = .returned (.tuple #[v, .int .i64 0, .int .i64 0]) ∧ w'.ownsRow B 5 1 v (p.length - hh) (ik .u8 ((puts T 0 p H).take (p.length - hh))).toList ∧ Rdw gd g lvv p.length tv (.slice ox lx cx) pr (hh : Int) false false w' ∧ Si .u8 (.slice ox lx cx) ((puts T 0 p H).drop (p.length - hh)) w' ∧ (Value.slice ox lx cx).ownBlock ≠ some gd)
/-- The same memory. -/
def Sam (a b : World) : Prop := b.heap = a.heap ∧ b.os = a.os ∧ b.tape = a.tape ∧ b.output = a.output
theorem Sam.drewN {a b : World} (h : Sam a b) (n : Nat) : Sam a (b.drewN n) := h
/-- What holds in Feed's second loop. -/
def fd_inv (gd g N B0 B2 : Nat) (T : List ByteArray) (lvv tv hv vt : Value) (q : Int) (p L : List Nat) (H : List (Int × Int)) (w wr : World) (k : Nat) : Prop :=
  wr.ownsRow B2 5 1 vt N (ik .u8 (puts T 0 p (H.take k))).toList ∧ wr.ownsRow B0 39 2 hv H.length (hc H) ∧ But gd w wr ∧ B2 ≤ wr.heap.size ∧ Rdw gd g lvv N tv vt q 0 false false wr ∧ Si .u8 lvv L wr
theorem fd_step (gd g N B0 B2 m : Nat) (T : List ByteArray) (hT : ∀ s ∈ T, s.size = m) (lvv tv hv vt : Value) (q : Int) (p L : List Nat) (H : List (Int × Int)) (w wr : World) (k : Nat) (hI : fd_inv gd g N B0 B2 T lvv tv hv vt q p L H w wr k) (hk : k < H.length) (hm1 : 0 < m)
    (hin : ∀ x ∈ H, Hin 0 N m T.length x) (hN : N ≤ 16777216) (hTv : St tv T w) (hTg : tv.ownBlock ≠ some gd) (gz : gd < w.heap.size) (hL : ∀ k, hv.ownBlock = some k → k < B2) (hB2 : w.heap.size ≤ B2) (hlv : ∀ k, lvv.ownBlock = some k → k < B2) :
    ∃ (hb hcp gT c i kk bT offT cT : Nat) (tw : ByteArray), hv = .slice (some ⟨hb, 0, none⟩) H.length hcp ∧ vt = .slice (some ⟨gT, 0, none⟩) N c ∧ tv = .slice (some ⟨bT, offT, none⟩) T.length cT ∧ kk < T.length ∧ i < N ∧ N ≤ c ∧
      wr.drew.cell? ⟨hb, k * 2, none⟩ = some (.int .i64 (i : Int)) ∧ wr.drew.cell? ⟨hb, k * 2 + 1, none⟩ = some (.int .i64 (kk : Int)) ∧ wr.drew.cell? ⟨gd, 3, none⟩ = some tv ∧ wr.drew.cell? ⟨gd, 4, none⟩ = some vt ∧ wr.drew.cell? ⟨bT, offT + kk, none⟩ = some (.string tw) ∧
      ∃ W4, (cpS 3 #[.slice (some ⟨gT, i, none⟩) (N - i) (c - i), .string tw]).run Try.prog wr.drew = .ok (goInt tw.size) W4 ∧ fd_inv gd g N B0 B2 T lvv tv hv vt q p L H w W4 (k + 1) := by
  obtain ⟨i1, i2, i3, i4, i5, i6⟩ := hI
  have hx : H.getD k (0, 0) = H[k] := by simp [List.getD, hk]
  obtain ⟨i, kk, hik, n1, n2, n3⟩ := hin (H.getD k (0, 0)) (by rw [hx]; exact List.getElem_mem hk)
  obtain ⟨gT, c, curT, rfl, gT0, rT, hNc⟩ := own_slice i1 (by omega)
  obtain ⟨hb, hcp, curH, rfl, hb0, rH, _⟩ := own_slice i2 (by omega)
  have hbB := hL hb rfl
  obtain ⟨bT, offT, cT, rfl, q2, q3, q4, q5⟩ : ∃ b off cap, tv = .slice (some ⟨b, off, none⟩) T.length cap ∧ T.length ≤ cap ∧ cap ≤ maxLen ∧ b < w.heap.size ∧ ∀ (j : Nat) s, T[j]? = some s → w.cell? ⟨b, off + j, none⟩ = some (.string s) := by
    rcases hTv with ⟨_, h⟩ | h
    · rw [h] at n3; simp at n3
    · exact h
  have hbTg : bT ≠ gd := fun e => hTg (by rw [e]; rfl)
  have hsz : (txt T kk).size = m := hT _ (by rw [txt_eq n3]; exact List.getElem_mem n3)
  obtain ⟨hHl, _⟩ := hl_own i2
  have hcells : wr.cell? ⟨hb, k * 2, none⟩ = some (.int .i64 (i : Int)) ∧ wr.cell? ⟨hb, k * 2 + 1, none⟩ = some (.int .i64 (kk : Int)) := by
    rcases hHl with ⟨h, _⟩ | ⟨b', off', cap', h, _, _, _, h6⟩
    · cases h
    · have h7 := h6 k hk
      rw [hik] at h7
      cases h
      rw [Nat.zero_add] at h7
      exact h7
  have iA1 : wr.drew.ownsRow B2 5 1 (.slice (some ⟨gT, 0, none⟩) N c) N (ik .u8 (puts T 0 p (H.take k))).toList := own_keep2 i1 fun _ _ => rfl
  obtain ⟨W4, rc, o4, k1, k2, k3, k4, k5⟩ := run_cpO wr.drew 3 B2 gT N c (i - 0) _ (txt T kk) iA1 (by omega)
  have gTz : gT < wr.heap.size := (Array.getElem?_eq_some_iff.1 rT).1
  have cT1 : wr.cell? ⟨bT, offT + kk, none⟩ = some (.string (txt T kk)) := (World.cell?_of_block (w := w) (i3.block bT q4 hbTg)).trans (q5 kk _ (txt_get n3))
  have k4' : W4.heap.size = wr.heap.size := k4
  have k5' : ∀ j, j ≠ gT → W4.heap[j]? = wr.heap[j]? := k5
  refine ⟨hb, hcp, gT, c, i, kk, bT, offT, cT, txt T kk, rfl, rfl, rfl, n3, by omega, hNc, hcells.1, hcells.2, (cell_of_row wr _ 3 _ _ _ i5).trans rfl, (cell_of_row wr _ 4 _ _ _ i5).trans rfl, cT1, W4, rc, ?_, ?_, ?_, by omega, (k5' gd (by omega)).trans i5, ?_⟩
  · rw [take_snocH hk, puts_snoc, hik]
    exact o4
  · exact own_keep2 i2 fun j hj => by cases hj; exact k5' hb (by omega)
  · exact ⟨k1.trans i3.os, k2.trans i3.tape, k3.trans i3.output, by have := i3.size; omega, fun j hj hn => (k5' j (by omega)).trans (i3.block j hj hn)⟩
  · exact i6.keep (by omega) fun k hk _ => k5' k (by have := hlv k hk; omega)
attribute [local go_sem ↓] toCpS toSlB toApP
set_option maxRecDepth 100000 in
set_option maxHeartbeats 3200000 in
theorem feedW_any (gd g m : Nat) (H : List (Int × Int)) (tv pv : Value) (T : List ByteArray) (p L : List Nat) (hh : Nat) (w : World) (hR : Rdw gd g (.slice none 0 0) 0 tv (.slice none 0 0) (-(m : Int)) 0 false false w) (hm : m ≤ 64) (hpl : p.length ≤ 16777216) (hhp : hh ≤ p.length)
    (hp : Si .u8 pv p w) (hpg : pv.ownBlock ≠ some gd) (hT : St tv T w) (hTg : tv.ownBlock ≠ some gd) (hTs : ∀ s ∈ T, s.size = m) (hgg : g ≠ gd) (hgz : g < w.heap.size) (hgw : w.cell? ⟨g, 257, none⟩ = some (.int .i64 (m : Int)))
    (hin : ∀ x ∈ H, Hin 0 p.length m T.length x) (hm0 : 0 < H.length → 0 < m) (hHl : H.length ≤ 16777216)
    (CF : ∀ W, Below w.heap.size w W → Calls Try.prog 30 #[.pointer (some ⟨gd, 0, none⟩), pv] W fun e w' => ∃ v lvv', e = .returned v ∧ w'.ownsRow W.heap.size 39 2 v H.length (hc H) ∧ Rdw gd g lvv' p.length tv (.slice none 0 0) (-(m : Int)) 0 false false w' ∧ Si .u8 lvv' L w' ∧ (∀ k, lvv'.ownBlock = some k → W.heap.size ≤ k) ∧ But gd W w')
    (CH : ∀ W lvv X, Rsg X 111 gd g lvv p.length W → Si .u8 lvv L W → (∀ j, j < w.heap.size → j ≠ gd → W.heap[j]? = w.heap[j]?) → Calls Try.prog 34 #[.pointer (some ⟨gd, 0, none⟩)] W fun e w' => e = .returned (.int .i64 (hh : Int)) ∧ Below W.heap.size W w') :
    Calls Try.prog 67 #[.pointer (some ⟨gd, 0, none⟩), pv] w fun e w' => But gd w w' ∧ RdF gd g m T p H hh tv w.heap.size e w' := by
  have c0 : w.cell? ⟨gd, 0, none⟩ = some (.pointer (some ⟨g, 0, none⟩)) := (cell_of_row w gd 0 _ _ _ hR).trans rfl
  have c1 : w.cell? ⟨gd, 1, none⟩ = some (.slice none 0 0) := (cell_of_row w gd 1 _ _ _ hR).trans rfl
  have c2 : w.cell? ⟨gd, 2, none⟩ = some (.int .i64 0) := (cell_of_row w gd 2 _ _ _ hR).trans rfl
  have c7 : w.cell? ⟨gd, 7, none⟩ = some (.bool false) := (cell_of_row w gd 7 _ _ _ hR).trans rfl
  have c8 : w.cell? ⟨gd, 8, none⟩ = some (.bool false) := (cell_of_row w gd 8 _ _ _ hR).trans rfl
  have gz : gd < w.heap.size := (Array.getElem?_eq_some_iff.1 hR).1
  obtain ⟨op, cp, hpo, -⟩ := hp.form
  subst hpo
  obtain ⟨W0, hW0⟩ : ∃ W0, w.alloc (.cells #[.pointer (some ⟨g, 0, none⟩), .slice none 0 0, .int .i64 0] 105) = W0 := ⟨_, rfl⟩
  have b0 : Below w.heap.size w W0 := by rw [← hW0]; exact (Below.refl _ w).alloc (Nat.le_refl _) _
  have r0 : W0.heap[w.heap.size]? = some (.cells #[.pointer (some ⟨g, 0, none⟩), .slice none 0 0, .int .i64 0] 105 (0, 0)) := by rw [← hW0]; exact heap_alloc_new w _
  have z0 : W0.heap.size = w.heap.size + 1 := by rw [← hW0]; simp
  have hR0 : Rdw gd g (.slice none 0 0) 0 tv (.slice none 0 0) (-(m : Int)) 0 false false W0 := (b0.block gd gz).trans hR
  have HK : Hid (W0.cell? ⟨gd, 2, none⟩ = some (.int .i64 0) ∧ W0.cell? ⟨gd, 4, none⟩ = some (.slice none 0 0)) := ⟨(cell_of_row W0 gd 2 _ _ _ hR0).trans rfl, (cell_of_row W0 gd 4 _ _ _ hR0).trans rfl⟩
  have HW0 : Hid (w.alloc (.cells #[.pointer (some ⟨g, 0, none⟩), .slice none 0 0, .int .i64 0] 105) = W0) := hW0
  have HCF : Hid _ := CF
  have HCH : Hid _ := CH
  have HB0 : Hid (Below w.heap.size w W0) := b0
  have HR0 : Hid (W0.heap[w.heap.size]? = some (.cells #[.pointer (some ⟨g, 0, none⟩), .slice none 0 0, .int .i64 0] 105 (0, 0)) ∧ W0.heap.size = w.heap.size + 1) := ⟨r0, z0⟩
  have HT : Hid (St tv T w ∧ tv.ownBlock ≠ some gd ∧ ∀ s ∈ T, s.size = m) := ⟨hT, hTg, hTs⟩
  have HP : Hid (Si .u8 (.slice op p.length cp) p w ∧ (Value.slice op p.length cp).ownBlock ≠ some gd) := ⟨hp, hpg⟩
  have HGW : Hid (w.cell? ⟨g, 257, none⟩ = some (.int .i64 (m : Int))) := hgw
  have HIN : Hid _ := hin
  clear hW0 hR CF CH b0 r0 z0 hR0 hT hTg hTs hp hpg hgw hin
  go_enter Try.func67, Try.ntmps67
  go_wp2_with fail
  rw [HW0.out]
  obtain ⟨k2, k4⟩ := HK.out
  go_quiet (fail)
  have C30 : Hid _ := HCF.out (W0.drewN nq) (Below.drewN' HB0.out nq)
  go_wp2_with fail
  refine Calls.mono C30.out ?_
  rintro e W1 ⟨hv, lvv, rfl, ho1, hr1, hl1, hlb, hb1⟩
  clear C30 HCF c0 c1 c2 c7 c8 k2 k4 HK HW0
  have HB1 : Hid (But gd w W1) := by
    have h0 : But gd w (W0.drewN nq) := ⟨HB0.out.os, HB0.out.tape, HB0.out.output, HB0.out.size, fun j hj _ => HB0.out.block j hj⟩
    exact ⟨hb1.os.trans h0.os, hb1.tape.trans h0.tape, hb1.output.trans h0.output, Nat.le_trans h0.size hb1.size, fun j hj hn => (hb1.block j (Nat.lt_of_lt_of_le hj h0.size) hn).trans (h0.block j hj hn)⟩
  have HA : Hid (W1.heap[w.heap.size]? = some (.cells #[.pointer (some ⟨g, 0, none⟩), .slice none 0 0, .int .i64 0] 105 (0, 0))) := (hb1.block w.heap.size (by have := HR0.out.2; show _ < W0.heap.size; omega) (by omega)).trans HR0.out.1
  have HO1 : Hid (W1.ownsRow (w.heap.size + 1) 39 2 hv H.length (hc H)) := by have := ho1; rw [show (W0.drewN nq).heap.size = w.heap.size + 1 from HR0.out.2] at this; exact this
  have HR1 : Hid (Rdw gd g lvv p.length tv (.slice none 0 0) (-(m : Int)) 0 false false W1) := hr1
  have HL1 : Hid (Si .u8 lvv L W1 ∧ ∀ k, lvv.ownBlock = some k → k < W1.heap.size) := ⟨hl1, hl1.blk⟩
  have HLG : Hid (∀ k, lvv.ownBlock = some k → k ≠ gd) := fun k hk => by have h1 := hlb k hk; have h2 := HR0.out.2; have h3 : W0.heap.size ≤ k := h1; omega
  have k5 : W1.cell? ⟨gd, 5, none⟩ = some (.int .i64 (-(m : Int))) := (cell_of_row W1 gd 5 _ _ _ hr1).trans rfl
  have HGC : Hid (∀ W, Sam W1 W → W.cell? ⟨gd, 0, none⟩ = some (.pointer (some ⟨g, 0, none⟩)) ∧ W.cell? ⟨g, 257, none⟩ = some (.int .i64 (m : Int))) := fun W hW => by
    refine ⟨(cell_of_row W gd 0 _ _ _ (by rw [hW.1]; exact HR1.out)).trans rfl, ?_⟩
    rw [World.cell?_of_block (w := w) (show W.heap[g]? = w.heap[g]? by rw [hW.1]; exact HB1.out.block g hgz hgg)]
    exact HGW.out
  have HBAD : Hid (∀ W, Sam W1 W → ∃ W2 W3 W4 W5, W.cell? ⟨w.heap.size, 0, none⟩ = some (.pointer (some ⟨g, 0, none⟩)) ∧ W.cell? ⟨w.heap.size, 1, none⟩ = some (.slice none 0 0) ∧ W.cell? ⟨w.heap.size, 2, none⟩ = some (.int .i64 0) ∧
      W.cell? ⟨gd, 0, none⟩ = some (.pointer (some ⟨g, 0, none⟩)) ∧ W.frozen? ⟨gd, 0, none⟩ = false ∧ W.setCell ⟨gd, 0, none⟩ (.pointer (some ⟨g, 0, none⟩)) = W2 ∧
      W2.cell? ⟨gd, 1, none⟩ = some lvv ∧ W2.frozen? ⟨gd, 1, none⟩ = false ∧ W2.setCell ⟨gd, 1, none⟩ (.slice none 0 0) = W3 ∧
      W3.cell? ⟨gd, 2, none⟩ = some (.int .i64 ((p.length : Nat) : Int)) ∧ W3.frozen? ⟨gd, 2, none⟩ = false ∧ W3.setCell ⟨gd, 2, none⟩ (.int .i64 0) = W4 ∧
      W4.cell? ⟨gd, 8, none⟩ = some (.bool false) ∧ W4.frozen? ⟨gd, 8, none⟩ = false ∧ W4.setCell ⟨gd, 8, none⟩ (.bool true) = W5 ∧ But gd w W5 ∧ ∀ b o, b ≠ gd → W5.cell? ⟨b, o, none⟩ = W.cell? ⟨b, o, none⟩) := fun W hW => by
    have hA : W.heap[w.heap.size]? = some (.cells #[.pointer (some ⟨g, 0, none⟩), .slice none 0 0, .int .i64 0] 105 (0, 0)) := by rw [hW.1]; exact HA.out
    have hr : W.heap[gd]? = some (.cells #[.pointer (some ⟨g, 0, none⟩), lvv, .int .i64 ((p.length : Nat) : Int), tv, .slice none 0 0, .int .i64 (-(m : Int)), .int .i64 0, .bool false, .bool false] 111 (0, 0)) := by rw [hW.1]; exact HR1.out
    have hr2 := heap_setCell_same W gd 0 _ _ (.pointer (some ⟨g, 0, none⟩)) hr
    have hr3 := heap_setCell_same _ gd 1 _ _ (.slice none 0 0) hr2
    have hr4 := heap_setCell_same _ gd 2 _ _ (.int .i64 0) hr3
    refine ⟨_, _, _, _, (cell_of_row W _ 0 _ _ _ hA).trans rfl, (cell_of_row W _ 1 _ _ _ hA).trans rfl, (cell_of_row W _ 2 _ _ _ hA).trans rfl, (cell_of_row W _ 0 _ _ _ hr).trans rfl, frozen_of_row _ _ _ _ _ hr, rfl, (cell_of_row _ _ 1 _ _ _ hr2).trans rfl, frozen_of_row _ _ _ _ _ hr2, rfl, (cell_of_row _ _ 2 _ _ _ hr3).trans rfl, frozen_of_row _ _ _ _ _ hr3, rfl, (cell_of_row _ _ 8 _ _ _ hr4).trans rfl, frozen_of_row _ _ _ _ _ hr4, rfl, ⟨?_, ?_, ?_, ?_, fun j hj hn => ?_⟩, fun b o hb => ?_⟩
    · exact hW.2.1.trans HB1.out.os
    · exact hW.2.2.1.trans HB1.out.tape
    · exact hW.2.2.2.trans HB1.out.output
    · have := HB1.out.size
      have h2 : W.heap.size = W1.heap.size := by rw [hW.1]
      simp [World.setCell]; omega
    · rw [heap_setCell_other _ _ _ _ hn, heap_setCell_other _ _ _ _ hn, heap_setCell_other _ _ _ _ hn, heap_setCell_other _ _ _ _ hn, hW.1]
      exact HB1.out.block j hj hn
    · exact World.cell?_of_block (by rw [heap_setCell_other _ _ _ _ hb, heap_setCell_other _ _ _ _ hb, heap_setCell_other _ _ _ _ hb, heap_setCell_other _ _ _ _ hb])
  obtain ⟨oh, ch, hoh⟩ := own_size ho1
  subst hoh
  clear ho1 hr1 hl1 hlb hb1
  have HD0 : Hid (dcP (m : Int) (-(m : Int)) H = dcP (m : Int) (-(m : Int)) (H.drop 0)) := rfl
  go_wp2_with fail
  go_loopw [10, 11] (fun pv iv wr => ∃ (k : Nat) (q : Int), iv = .int .i64 (k : Int) ∧ k ≤ H.length ∧ pv = .int .i64 q ∧ -100 ≤ q ∧ q ≤ 16777216 ∧ Hid (dcP (m : Int) (-(m : Int)) H = dcP (m : Int) q (H.drop k)) ∧ Hid (Sam W1 wr)) (fun _ iv _ => H.length - (intOf iv).toNat)
  case atStart => exact ⟨0, -(m : Int), rfl, by omega, rfl, by omega, by omega, HD0, ⟨rfl, rfl, rfl, rfl⟩⟩
  case round =>
    clear HD0 k5
    obtain ⟨k, q, rfl, hk, rfl, hq1, hq2, HD, HS⟩ := hrel
    by_cases hlt : k < H.length
    · have hk0 : (0 : Int) ≤ (k : Int) := by omega
      have hk1 : (k : Int) < (H.length : Int) := by omega
      have hxe : H.getD k (0, 0) = H[k] := by simp [List.getD, hlt]
      obtain ⟨ii, kk, hxx, n1, n2, n3⟩ := HIN.out (H.getD k (0, 0)) (by rw [hxe]; exact List.getElem_mem hlt)
      obtain ⟨bh, cph, curh, hvh, bh0, rh, -⟩ := own_slice HO1.out (by omega)
      cases hvh
      have HCB : Hid (∀ W, Sam W1 W → W.cell? ⟨bh, k * 2, none⟩ = some (.int .i64 (ii : Int))) := fun W hW => by
        rw [World.cell?_of_block (w := W1) (by rw [hW.1])]
        obtain ⟨hHl, _⟩ := hl_own HO1.out
        rcases hHl with ⟨h, _⟩ | ⟨b', off', cap', h, _, _, _, h6⟩
        · cases h
        · have h7 := (h6 k hlt).1
          rw [hxx] at h7
          cases h
          rw [Nat.zero_add] at h7
          exact h7
      have e1 := HCB.out wr HS.out
      obtain ⟨e2, e3⟩ := HGC.out wr HS.out
      have ew : IntKind.i64.wrap ((ii : Int) - q) = (ii : Int) - q := wi _ (by unfold I64; omega)
      have hdrop : H.drop k = ((ii : Int), (kk : Int)) :: H.drop (k + 1) := by rw [List.drop_eq_getElem_cons hlt, ← hxe, hxx]
      have bhg : bh ≠ gd := by omega
      by_cases hcc : (ii : Int) - q < (m : Int)
      · have HDA : Hid (dcP (m : Int) (-(m : Int)) H = some (ii : Int)) := by show _ = _; rw [HD.out, hdrop, dcP, if_pos hcc]
        clear hdrop hxe hxx HD
        go_wp2_with fail
        go_quiet (fail)
        obtain ⟨W2, W3, W4, W5, s1, s2, s3, s4, s5, s6, s7, s8, s9, s10, s11, s12, s13, s14, s15, s16, s17⟩ := HBAD.out (wr.drewN nq) (HS.out.drewN nq)
        have e4 : W5.cell? ⟨bh, k * 2, none⟩ = some (.int .i64 (ii : Int)) := (s17 bh _ bhg).trans (HCB.out _ (HS.out.drewN nq))
        have HE : Hid (∀ q, But gd w (W5.drewN q) ∧ RdF gd g m T p H hh tv w.heap.size (.returned (.tuple #[.slice none 0 0, .int .i64 52, .int .i64 (ii : Int)])) (W5.drewN q)) := fun q => ⟨⟨s16.os, s16.tape, s16.output, s16.size, s16.block⟩, .inl ⟨_, HDA.out, rfl⟩⟩
        clear s16 s17 HBAD HCB e1 e2 e3
        go_wp2_with fail
        go_quiet (fail)
        go_wp2
        go_ret3
        exact HE.out _
      · have HDA : Hid (dcP (m : Int) (-(m : Int)) H = dcP (m : Int) (ii : Int) (H.drop (k + 1))) := by show _ = _; rw [HD.out, hdrop, dcP, if_neg hcc]
        have HCB2 : Hid (∀ n, (wr.drewN n).cell? ⟨bh, k * 2, none⟩ = some (.int .i64 (ii : Int))) := fun n => HCB.out _ (HS.out.drewN n)
        clear hdrop hxe hxx HD HBAD HCB
        go_wp2_with fail
        go_quiet (fail)
        have e4 := HCB2.out nq
        go_wp2
        exact ⟨⟨k + 1, (ii : Int), by rfl, by omega, rfl, by omega, by omega, HDA, HS.out.drewN _⟩, by simp only [intOf]; omega⟩
    · have hk1 : ¬ ((k : Int) < (H.length : Int)) := by omega
      have HDN : Hid (dcP (m : Int) (-(m : Int)) H = none) := by show _ = _; rw [HD.out, List.drop_of_length_le (by omega)]; rfl
      obtain ⟨wo, rfl⟩ : ∃ wo, wo = wr := ⟨_, rfl⟩
      have hro : Rdw gd g lvv p.length tv (.slice none 0 0) (-(m : Int)) 0 false false wo := by unfold Rdw; rw [HS.out.1]; exact HR1.out
      have x5 : wo.cell? ⟨gd, 5, none⟩ = some (.int .i64 (-(m : Int))) := (cell_of_row wo gd 5 _ _ _ hro).trans rfl
      have y5 : wo.frozen? ⟨gd, 5, none⟩ = false := frozen_of_row _ _ _ _ _ hro
      obtain ⟨W2, hW2⟩ : ∃ W2, wo.setCell ⟨gd, 5, none⟩ (.int .i64 q) = W2 := ⟨_, rfl⟩
      have hr2 : Rdw gd g lvv p.length tv (.slice none 0 0) q 0 false false W2 := by rw [← hW2]; exact (heap_setCell_same _ _ _ _ _ _ hro).trans rfl
      have oth2 : ∀ j, j ≠ gd → W2.heap[j]? = W1.heap[j]? := fun j hj => by rw [← hW2, heap_setCell_other _ _ _ _ hj, HS.out.1]
      have z2 : W2.heap.size = W1.heap.size := by rw [← hW2]; simp [World.setCell, HS.out.1]
      have hz1 := HB1.out.size
      have hb2 : But gd w W2 := ⟨by rw [← hW2]; exact HS.out.2.1.trans HB1.out.os, by rw [← hW2]; exact HS.out.2.2.1.trans HB1.out.tape, by rw [← hW2]; exact HS.out.2.2.2.trans HB1.out.output, by omega, fun j hj hn => (oth2 j hn).trans (HB1.out.block j hj hn)⟩
      have x4 : W2.cell? ⟨gd, 4, none⟩ = some (.slice none 0 0) := (cell_of_row W2 gd 4 _ _ _ hr2).trans rfl
      have hp2 : Si .u8 (.slice op p.length cp) p W2 := HP.out.1.keep hb2.size fun j hj hz => hb2.block j hz fun e => HP.out.2 (by rw [hj, e])
      obtain ⟨vt, W3, r3, o3, b3⟩ := run_apP W2 W2.heap.size 0 23 (.slice none 0 0) [] p _ (World.ownsRow_nil _ _ _ _) hp2 (by omega) (Nat.le_refl _)
      rw [Nat.zero_add, List.nil_append] at o3
      have gz2 : gd < W2.heap.size := by omega
      have hr3 := (b3.block gd gz2).trans hr2
      have x4' : W3.cell? ⟨gd, 4, none⟩ = some (.slice none 0 0) := (cell_of_row W3 gd 4 _ _ _ hr3).trans rfl
      have y4' : W3.frozen? ⟨gd, 4, none⟩ = false := frozen_of_row _ _ _ _ _ hr3
      obtain ⟨ovt, cvt, hvt⟩ := own_size o3
      subst hvt
      obtain ⟨W4, hW4⟩ : ∃ W4, W3.setCell ⟨gd, 4, none⟩ (.slice ovt p.length cvt) = W4 := ⟨_, rfl⟩
      have oth4 : ∀ j, j ≠ gd → W4.heap[j]? = W3.heap[j]? := fun j hj => by rw [← hW4, heap_setCell_other _ _ _ _ hj]
      have z4 : W4.heap.size = W3.heap.size := by rw [← hW4]; simp [World.setCell]
      have hHvL : ∀ k, (Value.slice oh H.length ch).ownBlock = some k → k < W2.heap.size := fun k hk => by have := (HO1.out.lt k hk).2; omega
      have hlvL : ∀ k, lvv.ownBlock = some k → k < W2.heap.size := fun k hk => by have := HL1.out.2 k hk; omega
      have hlvg : ∀ k, lvv.ownBlock = some k → k ≠ gd := HLG.out
      have HI0 : Hid (fd_inv gd g p.length (w.heap.size + 1) W2.heap.size T lvv tv (.slice oh H.length ch) (.slice ovt p.length cvt) q p L H w W4 0) := by
        refine ⟨own_keep2 o3 fun k hk => oth4 k (by have := (o3.lt k hk).1; omega), own_keep2 HO1.out fun k hk => ?_, ?_, by have := b3.size; omega, ?_, ?_⟩
        · have h1 := (HO1.out.lt k hk).1
          rw [oth4 k (by omega), b3.block k (hHvL k hk), oth2 k (by omega)]
        · refine ⟨by rw [← hW4]; exact b3.os.trans hb2.os, by rw [← hW4]; exact b3.tape.trans hb2.tape, by rw [← hW4]; exact b3.output.trans hb2.output, by have := b3.size; omega, fun j hj hn => ?_⟩
          rw [oth4 j hn, b3.block j (by omega)]
          exact hb2.block j hj hn
        · rw [← hW4]; exact (heap_setCell_same _ _ _ _ _ _ hr3).trans rfl
        · exact HL1.out.1.keep (by have := b3.size; omega) fun j hj hz => by rw [oth4 j (hlvg j hj), b3.block j (hlvL j hj), oth2 j (hlvg j hj)]
      have HST : Hid (∀ wr k, fd_inv gd g p.length (w.heap.size + 1) W2.heap.size T lvv tv (.slice oh H.length ch) (.slice ovt p.length cvt) q p L H w wr k → k < H.length → _) := fun wr k hI hk => fd_step gd g p.length (w.heap.size + 1) W2.heap.size m T HT.out.2.2 lvv tv (.slice oh H.length ch) (.slice ovt p.length cvt) q p L H w wr k hI hk (hm0 (by omega)) HIN.out (by omega) HT.out.1 HT.out.2.1 gz hHvL (by omega) hlvL
      have HZ2 : Hid (w.heap.size ≤ W2.heap.size) := by show _ ≤ _; omega
      clear HD hro hr2 oth2 z2 hz1 hb2 hp2 o3 b3 hr3 oth4 z4 hHvL hlvL hlvg HS HBAD HGC HO1 HR1 HL1 HLG HA HB1 HB0 HR0 HGW HP
      go_wp2_with fail
      go_loopw [12] (fun iv wr => ∃ k : Nat, iv = .int .i64 (k : Int) ∧ k ≤ H.length ∧ Hid (fd_inv gd g p.length (w.heap.size + 1) W2.heap.size T lvv tv (.slice oh H.length ch) (.slice ovt p.length cvt) q p L H w wr k)) (fun iv _ => H.length - (intOf iv).toNat)
      case atStart => exact ⟨0, rfl, by omega, HI0⟩
      case round =>
        clear HI0 r3 x4 x4' y4' x5 y5 hW2 hW4
        obtain ⟨k2, rfl, hk2, HI⟩ := hrel
        by_cases hlt2 : k2 < H.length
        · have hk0' : (0 : Int) ≤ (k2 : Int) := by omega
          have hk1' : (k2 : Int) < (H.length : Int) := by omega
          obtain ⟨hb, hcp, gT, c, i, kk, bT, offT, cT, tw, v1, v2, v3, n3, hiN, hNc, e1, e2, e3, e4, e5, W5, rc, HI2⟩ := HST.out wr k2 HI.out hlt2
          cases v1
          cases v2
          subst v3
          have HI3 : Hid (fd_inv gd g p.length (w.heap.size + 1) W2.heap.size T lvv (.slice (some ⟨bT, offT, none⟩) T.length cT) (.slice (some ⟨hb, 0, none⟩) H.length ch) (.slice (some ⟨gT, 0, none⟩) p.length cvt) q p L H w W5 (k2 + 1)) := HI2
          clear HI2 HST HI
          have rs := run_cutC gT p.length cvt i hiN hNc
          have hkk0 : (0 : Int) ≤ (kk : Int) := by omega
          have hkk1 : (kk : Int) < (T.length : Int) := by omega
          have w1 : IntKind.i64.wrap (i : Int) = (i : Int) := wi _ (by unfold I64; omega)
          have w2 : (i : Int) < 9223372036854775808 := by omega
          obtain ⟨TL, hTL⟩ : ∃ TL, TL = T.length := ⟨_, rfl⟩
          have HTL : Hid (TL = T.length) := hTL
          rw [← hTL] at e3 hkk1
          clear hTL
          go_wp2_with fail
          go_big_region
          go_wp2
          exact ⟨⟨k2 + 1, by rfl, by omega, HI3⟩, by simp only [intOf]; omega⟩
        · have hk1' : ¬ ((k2 : Int) < (H.length : Int)) := by omega
          have hke : k2 = H.length := by omega
          obtain ⟨i1, i2, i3, i4, i5, i6⟩ := HI.out
          rw [hke, List.take_length] at i1
          have C34 : Hid (Calls Try.prog 34 #[.pointer (some ⟨gd, 0, none⟩)] wr fun e w' => e = .returned (.int .i64 (hh : Int)) ∧ Below wr.heap.size wr w') := HCH.out wr lvv [tv, .slice ovt p.length cvt, .int .i64 q, .int .i64 0, .bool false, .bool false] i5 i6 i3.block
          obtain ⟨wp, rfl⟩ : ∃ wp, wp = wr := ⟨_, rfl⟩
          obtain ⟨P, hP⟩ : ∃ P, P = puts T 0 p H := ⟨_, rfl⟩
          rw [← hP] at i1
          have hPl : P.length = p.length := by rw [hP]; exact puts_len (m := m) HT.out.2.2 H p HIN.out
          have HPE : Hid (P = puts T 0 p H ∧ P.length = p.length) := ⟨hP, hPl⟩
          have HIV : Hid (wp.ownsRow W2.heap.size 5 1 (.slice ovt p.length cvt) p.length (ik .u8 P).toList ∧ But gd w wp ∧ W2.heap.size ≤ wp.heap.size ∧ Rdw gd g lvv p.length tv (.slice ovt p.length cvt) q 0 false false wp) := ⟨i1, i3, i4, i5⟩
          clear HI HST hke i1 i2 i3 i4 i5 i6 hP hPl HCH
          go_wp2_with fail
          refine Calls.mono C34.out ?_
          rintro e W5 ⟨rfl, b5⟩
          clear C34
          obtain ⟨i1, i3, i4, i5⟩ := HIV.out
          have gzp : gd < wp.heap.size := by have := i3.size; omega
          have hr5 := (b5.block gd gzp).trans i5
          have x6 : W5.cell? ⟨gd, 6, none⟩ = some (.int .i64 0) := (cell_of_row W5 gd 6 _ _ _ hr5).trans rfl
          have y6 : W5.frozen? ⟨gd, 6, none⟩ = false := frozen_of_row _ _ _ _ _ hr5
          obtain ⟨W6, hW6⟩ : ∃ W6, W5.setCell ⟨gd, 6, none⟩ (.int .i64 (hh : Int)) = W6 := ⟨_, rfl⟩
          have hr6 : Rdw gd g lvv p.length tv (.slice ovt p.length cvt) q (hh : Int) false false W6 := by rw [← hW6]; exact (heap_setCell_same _ _ _ _ _ _ hr5).trans rfl
          have oth6 : ∀ j, j ≠ gd → W6.heap[j]? = W5.heap[j]? := fun j hj => by rw [← hW6, heap_setCell_other _ _ _ _ hj]
          have z6 : W6.heap.size = W5.heap.size := by rw [← hW6]; simp [World.setCell]
          have hb6 : But gd w W6 := by
            refine ⟨by rw [← hW6]; exact b5.os.trans i3.os, by rw [← hW6]; exact b5.tape.trans i3.tape, by rw [← hW6]; exact b5.output.trans i3.output, by have := b5.size; have := i3.size; omega, fun j hj hn => ?_⟩
            rw [oth6 j hn, b5.block j (by have := i3.size; omega)]
            exact i3.block j hj hn
          have o6 : W6.ownsRow W2.heap.size 5 1 (.slice ovt p.length cvt) p.length (ik .u8 P).toList := own_keep2 i1 fun k hk => by
            have h1 := i1.lt k hk
            rw [oth6 k (by have := HZ2.out; omega), b5.block k h1.2]
          obtain ⟨nn, hnn⟩ : ∃ nn, nn = p.length - hh := ⟨_, rfl⟩
          have eN : IntKind.i64.wrap ((p.length : Int) - (hh : Int)) = (nn : Int) := by rw [wi _ (by unfold I64; omega)]; omega
          have HQ6 : Hid (∀ W, W.heap = W6.heap → W.os = W6.os → W.tape = W6.tape → W.output = W6.output → ∃ o1 c1 vg W7 o2 l2 c2 W8,
              W.cell? ⟨gd, 4, none⟩ = some (.slice ovt p.length cvt) ∧ (∀ U, (slB (.slice ovt p.length cvt) none (some (.int .i64 (nn : Int))) none).run Try.prog U = .ok (.slice o1 nn c1) U) ∧ (apP 23 #[.slice none 0 0, .slice o1 nn c1]).run Try.prog W = .ok vg W7 ∧
              W7.cell? ⟨gd, 4, none⟩ = some (.slice ovt p.length cvt) ∧ (∀ U, (slB (.slice ovt p.length cvt) (some (.int .i64 (nn : Int))) none none).run Try.prog U = .ok (.slice o2 l2 c2) U) ∧ ∃ or lr cr, (apP 23 #[.slice none 0 0, .slice o2 l2 c2]).run Try.prog W7 = .ok (.slice or lr cr) W8 ∧
              W8.cell? ⟨gd, 4, none⟩ = some (.slice ovt p.length cvt) ∧ W8.frozen? ⟨gd, 4, none⟩ = false ∧ Hid (But gd w (W8.setCell ⟨gd, 4, none⟩ (.slice or lr cr)) ∧ RdF gd g m T p H hh tv w.heap.size (.returned (.tuple #[vg, .int .i64 0, .int .i64 0])) (W8.setCell ⟨gd, 4, none⟩ (.slice or lr cr)))) := fun W w1 w2 w3 w4 => by
            have zW : W.heap.size = W6.heap.size := by rw [w1]
            have hbW : But gd w W := ⟨w2.trans hb6.os, w3.trans hb6.tape, w4.trans hb6.output, by rw [zW]; exact hb6.size, fun j hj hn => by rw [w1]; exact hb6.block j hj hn⟩
            have hrW : Rdw gd g lvv p.length tv (.slice ovt p.length cvt) q (hh : Int) false false W := by unfold Rdw; rw [w1]; exact hr6
            have oW : W.ownsRow W2.heap.size 5 1 (.slice ovt p.length cvt) p.length (ik .u8 P).toList := own_keep2 o6 fun _ _ => by rw [w1]
            have sW : Si .u8 (.slice ovt p.length cvt) P W := own_si oW HPE.out.2.symm
            obtain ⟨o1, c1, u1, u2⟩ := cut_h sW nn (by rw [HPE.out.2]; omega)
            obtain ⟨vg, W7, u3, u4, u5⟩ := run_apP W W.heap.size 0 23 (.slice none 0 0) [] _ _ (World.ownsRow_nil _ _ _ _) u2 (by rw [List.length_take]; omega) (Nat.le_refl _)
            have sW7 : Si .u8 (.slice ovt p.length cvt) P W7 := sW.below u5
            obtain ⟨o2, l2, c2, u6, u7⟩ := cut_l sW7 nn (by rw [HPE.out.2]; omega)
            obtain ⟨vr, W8, u8, u9, u10⟩ := run_apP W7 W7.heap.size 0 23 (.slice none 0 0) [] _ _ (World.ownsRow_nil _ _ _ _) u7 (by rw [List.length_drop, HPE.out.2]; omega) (Nat.le_refl _)
            obtain ⟨or, cr, hvr⟩ := own_size u9
            subst hvr
            have gzW : gd < W.heap.size := (Array.getElem?_eq_some_iff.1 hrW).1
            have gz7 : gd < W7.heap.size := by have := u5.size; omega
            have hr7 := (u5.block gd gzW).trans hrW
            have hr8 := (u10.block gd gz7).trans hr7
            have oth9 : ∀ j, j ≠ gd → (W8.setCell ⟨gd, 4, none⟩ (.slice or (0 + (P.drop nn).length) cr)).heap[j]? = W8.heap[j]? := fun j hj => heap_setCell_other _ _ _ _ hj
            refine ⟨o1, c1, vg, W7, o2, l2, c2, W8, (cell_of_row W _ 4 _ _ _ hrW).trans rfl, u1, u3, (cell_of_row W7 _ 4 _ _ _ hr7).trans rfl, u6, or, _, cr, u8, (cell_of_row W8 _ 4 _ _ _ hr8).trans rfl, frozen_of_row _ _ _ _ _ hr8, ?_, ?_⟩
            · refine ⟨u10.os.trans (u5.os.trans hbW.os), u10.tape.trans (u5.tape.trans hbW.tape), u10.output.trans (u5.output.trans hbW.output), ?_, fun j hj hn => ?_⟩
              · have := u10.size; have := u5.size; have := hbW.size
                simp [World.setCell]; omega
              · have h1 := hbW.size
                have h2 := u5.size
                rw [oth9 j hn, u10.block j (by omega), u5.block j (by omega)]
                exact hbW.block j hj hn
            · refine .inr ⟨HDN.out, vg, lvv, or, 0 + (P.drop nn).length, cr, q, rfl, ?_, ?_, ?_, ?_⟩
              · rw [← hnn, ← HPE.out.1]
                have hl1 : 0 + (P.take nn).length = nn := by rw [List.length_take, HPE.out.2]; omega
                rw [List.nil_append, hl1] at u4
                refine own_down (own_keep2 u4 fun k hk => ?_) hbW.size
                have h1 := u4.lt k hk
                rw [oth9 k (by omega), u10.block k h1.2]
              · exact (heap_setCell_same _ _ _ _ _ _ hr8).trans rfl
              · rw [← hnn, ← HPE.out.1]
                have := own_si u9 (by simp)
                rw [List.nil_append] at this
                exact this.keep (by simp [World.setCell]) fun k hk _ => oth9 k (by have := (u9.lt k hk).1; omega)
              · intro e
                have := (u9.lt _ e).1
                omega
          have c4r : W6.cell? ⟨gd, 4, none⟩ = some (.slice ovt p.length cvt) := (cell_of_row W6 gd 4 _ _ _ hr6).trans rfl
          have c6r : W6.cell? ⟨gd, 6, none⟩ = some (.int .i64 (hh : Int)) := (cell_of_row W6 gd 6 _ _ _ hr6).trans rfl
          clear hr5 hr6 oth6 z6 hb6 o6 hnn b5 i1 i3 i4 i5 HIV HPE gzp
          go_wp2_with fail
          go_quiet (fail)
          obtain ⟨o1, c1, vg, W7, o2, l2, c2, W8, q1, q2, q3, q4, q5, or, lr, cr, q6, q7, q8, HE⟩ := HQ6.out (W6.drewN nq) rfl rfl rfl rfl
          clear HQ6
          go_wp2
          go_ret3
          exact HE.out
end Go.Proofs.Ytceaklefdahfkab

/- The document's rewriter: Feed of one that has taken some bytes. -/
namespace Go.Proofs.Ytceaklefdahfkab
open Go.RowKit
/-- All blocks but some are as they were. -/
structure Bt (Z : Nat → Prop) (w w' : World) : Prop where
  os : w'.os = w.os
  tape : w'.tape = w.tape
  output : w'.output = w.output
  size : w.heap.size ≤ w'.heap.size
  block : ∀ j, j < w.heap.size → ¬ Z j → w'.heap[j]? = w.heap[j]?
theorem Bt.refl (Z : Nat → Prop) (w : World) : Bt Z w w := ⟨rfl, rfl, rfl, Nat.le_refl _, fun _ _ _ => rfl⟩
theorem own_apart {w : World} {B B' n n' : Nat} {v u : Value} {xs ys : List Value} (h : w.ownsRow B 39 2 v n xs) (k : w.ownsRow B' 5 1 u n' ys) : ∀ j, v.ownBlock = some j → u.ownBlock ≠ some j := fun j hj hk => by
  obtain ⟨_, ⟨rfl, _⟩ | ⟨g, cap, cur, rfl, _, h3, _⟩⟩ := h
  · cases hj
  · obtain ⟨_, ⟨rfl, _⟩ | ⟨g', cap', cur', rfl, _, k3, _⟩⟩ := k
    · cases hk
    · simp only [Value.ownBlock, Option.some.injEq] at hj hk
      subst hj
      rw [hk] at k3
      rw [h3] at k3
      simp at k3
/-- Bytes appended to bytes, wherever they come to lie. -/
theorem run_apPw (w : World) (base n ty : Nat) (v : Value) (l e : List Nat) (sv : Value) (ho : w.ownsRow base 5 1 v n (ik .u8 l).toList) (hs : Si .u8 sv e w) (hb : n + e.length ≤ 1099511627776) (hB : base ≤ w.heap.size) :
    ∃ v' w', (apP ty #[v, sv]).run Try.prog w = .ok v' w' ∧ w'.ownsRow base 5 1 v' (n + e.length) (ik .u8 (l ++ e)).toList ∧ w.grownBy w' v.ownBlock ∧ (v'.ownBlock = v.ownBlock ∨ v'.ownBlock = some w.heap.size) := by
  obtain ⟨i0, hi0, hz0, hz1, hz2⟩ := info_parts info5
  rcases hs with ⟨rfl, rfl⟩ | ⟨b, off, c, rfl, h2, h3, h4, h5⟩
  · refine ⟨v, w, run_append_owned_none (P := Try.prog) w base 23 ty 5 i0 1 Try.underlying23 hi0 _ n _ ho, ?_, ⟨rfl, rfl, rfl, Nat.le_refl _, fun _ _ _ => rfl⟩, .inl rfl⟩
    rw [List.append_nil]; exact ho
  · obtain ⟨v', w', hr, ho2, hg, _, hw⟩ := run_append_own_at (P := Try.prog) w base 23 ty 5 i0 _ 1 1 Try.underlying23 hi0 hz0 hz1 hz2 rfl (by omega) v n _ ho ⟨b, off, none⟩ e.length c (ik .u8 e).toList (by simp [ik]) (fun j u hu => by
        have hj : j < e.length := by have := (List.getElem?_eq_some_iff.1 hu).1; simpa [ik] using this
        rw [Array.getElem?_toList, ik_get _ _ j hj] at hu
        rw [← Option.some.inj hu, Go.WideShapes.add_plain]
        exact h5 j hj) (fun u hu => by
        have := ik_one .u8 e
        rw [Array.all_eq_true] at this
        obtain ⟨j, hj, rfl⟩ := List.getElem_of_mem hu
        simp only [Array.length_toList] at hj
        exact this j hj) (by unfold maxLen; omega) (by omega) hB
    have e : (ik .u8 l).toList ++ (ik .u8 e).toList = (ik .u8 (l ++ e)).toList := by simp [ik]
    rw [e] at ho2
    exact ⟨v', w', hr, ho2, hg, hw⟩
/-- What holds in Feed's second loop. -/
def fg_inv (gd g n2 N B0 Bx B2 st : Nat) (T : List ByteArray) (lvv tv hv vt : Value) (q hd : Int) (X L : List Nat) (H : List (Int × Int)) (Z : Nat → Prop) (w wr : World) (k : Nat) : Prop :=
  wr.ownsRow Bx 5 1 vt N (ik .u8 (puts T st X (H.take k))).toList ∧ wr.ownsRow B0 39 2 hv H.length (hc H) ∧ Bt Z w wr ∧ B2 ≤ wr.heap.size ∧ Rdw gd g lvv n2 tv vt q hd false false wr ∧ Si .u8 lvv L wr
theorem fg_step (gd g n2 N B0 Bx B2 st m : Nat) (T : List ByteArray) (hT : ∀ s ∈ T, s.size = m) (lvv tv hv vt : Value) (q hd : Int) (X L : List Nat) (H : List (Int × Int)) (Z : Nat → Prop) (w wr : World) (k : Nat) (hI : fg_inv gd g n2 N B0 Bx B2 st T lvv tv hv vt q hd X L H Z w wr k) (hk : k < H.length) (hm1 : 0 < m)
    (hin : ∀ x ∈ H, Hin st N m T.length x) (hTv : St tv T w) (hTg : ∀ j, tv.ownBlock = some j → ¬ Z j) (hvt : ∀ j, vt.ownBlock = some j → (Z j ∨ B2 ≤ j) ∧ j ≠ gd) (hB2 : w.heap.size ≤ B2) (hlv : ∀ j, lvv.ownBlock = some j → vt.ownBlock ≠ some j) :
    ∃ (hb hcp gT c i kk bT offT cT : Nat) (tw : ByteArray), hv = .slice (some ⟨hb, 0, none⟩) H.length hcp ∧ vt = .slice (some ⟨gT, 0, none⟩) N c ∧ tv = .slice (some ⟨bT, offT, none⟩) T.length cT ∧ kk < T.length ∧ i < N ∧ N ≤ c ∧
      wr.drew.cell? ⟨hb, k * 2, none⟩ = some (.int .i64 ((st + i : Nat) : Int)) ∧ wr.drew.cell? ⟨hb, k * 2 + 1, none⟩ = some (.int .i64 (kk : Int)) ∧ wr.drew.cell? ⟨gd, 3, none⟩ = some tv ∧ wr.drew.cell? ⟨gd, 4, none⟩ = some vt ∧ wr.drew.cell? ⟨bT, offT + kk, none⟩ = some (.string tw) ∧
      ∃ W4, (cpS 3 #[.slice (some ⟨gT, i, none⟩) (N - i) (c - i), .string tw]).run Try.prog wr.drew = .ok (goInt tw.size) W4 ∧ fg_inv gd g n2 N B0 Bx B2 st T lvv tv hv vt q hd X L H Z w W4 (k + 1) := by
  obtain ⟨i1, i2, i3, i4, i5, i6⟩ := hI
  have hap := own_apart i2 i1
  have hx : H.getD k (0, 0) = H[k] := by simp [List.getD, hk]
  obtain ⟨i, kk, hik, n1, n2', n3⟩ := hin (H.getD k (0, 0)) (by rw [hx]; exact List.getElem_mem hk)
  obtain ⟨gT, c, curT, rfl, gT0, rT, hNc⟩ := own_slice i1 (by omega)
  obtain ⟨hb, hcp, curH, rfl, hb0, rH, _⟩ := own_slice i2 (by omega)
  have hgT := hvt gT rfl
  have hne : hb ≠ gT := fun e => hap hb rfl (by rw [e]; rfl)
  obtain ⟨bT, offT, cT, rfl, q2, q3, q4, q5⟩ : ∃ b off cap, tv = .slice (some ⟨b, off, none⟩) T.length cap ∧ T.length ≤ cap ∧ cap ≤ maxLen ∧ b < w.heap.size ∧ ∀ (j : Nat) s, T[j]? = some s → w.cell? ⟨b, off + j, none⟩ = some (.string s) := by
    rcases hTv with ⟨_, h⟩ | h
    · rw [h] at n3; simp at n3
    · exact h
  have hbTg : ¬ Z bT := hTg bT rfl
  have hsz : (txt T kk).size = m := hT _ (by rw [txt_eq n3]; exact List.getElem_mem n3)
  obtain ⟨hHl, _⟩ := hl_own i2
  have hcells : wr.cell? ⟨hb, k * 2, none⟩ = some (.int .i64 (i : Int)) ∧ wr.cell? ⟨hb, k * 2 + 1, none⟩ = some (.int .i64 (kk : Int)) := by
    rcases hHl with ⟨h, _⟩ | ⟨b', off', cap', h, _, _, _, h6⟩
    · cases h
    · have h7 := h6 k hk
      rw [hik] at h7
      cases h
      rw [Nat.zero_add] at h7
      exact h7
  have iA1 : wr.drew.ownsRow Bx 5 1 (.slice (some ⟨gT, 0, none⟩) N c) N (ik .u8 (puts T st X (H.take k))).toList := own_keep2 i1 fun _ _ => rfl
  obtain ⟨W4, rc, o4, k1, k2, k3, k4, k5⟩ := run_cpO wr.drew 3 Bx gT N c (i - st) _ (txt T kk) iA1 (by omega)
  have gTz : gT < wr.heap.size := (Array.getElem?_eq_some_iff.1 rT).1
  have cT1 : wr.cell? ⟨bT, offT + kk, none⟩ = some (.string (txt T kk)) := (World.cell?_of_block (w := w) (i3.block bT q4 hbTg)).trans (q5 kk _ (txt_get n3))
  have k4' : W4.heap.size = wr.heap.size := k4
  have k5' : ∀ j, j ≠ gT → W4.heap[j]? = wr.heap[j]? := k5
  have hZ : ∀ j, j < w.heap.size → ¬ Z j → j ≠ gT := fun j hj hn e => by
    subst e
    rcases hgT.1 with h | h
    · exact hn h
    · omega
  refine ⟨hb, hcp, gT, c, i - st, kk, bT, offT, cT, txt T kk, rfl, rfl, rfl, n3, by omega, hNc, by rw [show st + (i - st) = i by omega]; exact hcells.1, hcells.2, (cell_of_row wr _ 3 _ _ _ i5).trans rfl, (cell_of_row wr _ 4 _ _ _ i5).trans rfl, cT1, W4, rc, ?_, ?_, ?_, by omega, (k5' gd (fun e => hgT.2 e.symm)).trans i5, ?_⟩
  · rw [take_snocH hk, puts_snoc, hik]
    exact o4
  · exact own_keep2 i2 fun j hj => by cases hj; exact k5' hb hne
  · exact ⟨k1.trans i3.os, k2.trans i3.tape, k3.trans i3.output, by have := i3.size; omega, fun j hj hn => (k5' j (hZ j hj hn)).trans (i3.block j hj hn)⟩
  · exact i6.keep (by omega) fun j hj _ => k5' j (fun e => hlv j hj (by rw [e]; rfl))
/-- The place of the last hit. -/
def frL (q : Int) (H : List (Int × Int)) : Int := H.foldl (fun _ x => x.1) q
theorem frL_snoc (q : Int) (H : List (Int × Int)) (x : Int × Int) : frL q (H ++ [x]) = x.1 := by simp [frL]
theorem frL_last (q : Int) (H : List (Int × Int)) (x : Int × Int) (h : H.getLast? = some x) : frL q H = x.1 := by
  obtain ⟨l, rfl⟩ := List.getLast?_eq_some_iff.1 h
  exact frL_snoc q l x
/-- What the document's Feed answers, of one that has taken n bytes, and put out st of them. -/
def RgF (gd g n m st : Nat) (T : List ByteArray) (X p L : List Nat) (H : List (Int × Int)) (hh : Nat) (lv tv xv : Value) (pr hd : Int) (B : Nat) (w : World) (e : Ending) (w' : World) : Prop :=
  (∃ a, dcP (m : Int) pr H = some a ∧ e = .returned (.tuple #[.slice none 0 0, .int .i64 52, .int .i64 a]) ∧ Rdw gd g lv n tv xv pr hd false true w' ∧ Bt (fun j => j = gd) w w') ∨
  (dcP (m : Int) pr H = none ∧ ∃ v lvv ox lx cx q, e = .returned (.tuple #[v, .int .i64 0, .int .i64 0]) ∧ w'.ownsRow B 5 1 v (X.length + p.length - hh) (ik .u8 ((puts T st (X ++ p) H).take (X.length + p.length - hh))).toList ∧ Rdw gd g lvv (n + p.length) tv (.slice ox lx cx) q (hh : Int) false false w' ∧ q = frL pr H ∧
    w'.ownsRow B 5 1 (.slice ox lx cx) hh (ik .u8 ((puts T st (X ++ p) H).drop (X.length + p.length - hh))).toList ∧ Si .u8 lvv L w' ∧ (∀ k, lvv.ownBlock = some k → B ≤ k) ∧ Bt (fun j => j = gd ∨ xv.ownBlock = some j) w w')
attribute [local go_sem ↓] toCpS toSlB toApP
set_option maxRecDepth 100000 in
set_option maxHeartbeats 3200000 in
theorem feedW_gen (gd g m n st Bx : Nat) (H : List (Int × Int)) (lv tv pv xv : Value) (pr hd : Int) (T : List ByteArray) (X p L : List Nat) (hh : Nat) (w : World) (hR : Rdw gd g lv n tv xv pr hd false false w) (hlvf : ∃ o k c, lv = .slice o k c) (hXo : w.ownsRow Bx 5 1 xv X.length (ik .u8 X).toList) (hBx : Bx ≤ w.heap.size) (hXd : xv.ownBlock ≠ some gd) (hXl : X.length ≤ 64) (hst : n = st + X.length) (hn : n ≤ 1125899906842624) (hpr : -100 ≤ pr ∧ pr ≤ 1125899906842624) (hm : m ≤ 64) (hpl : p.length ≤ 16777216) (hhp : hh ≤ X.length + p.length)
    (hp : Si .u8 pv p w) (hpg : ∀ j, pv.ownBlock = some j → j ≠ gd) (hT : St tv T w) (hTg : ∀ j, tv.ownBlock = some j → j ≠ gd ∧ xv.ownBlock ≠ some j) (hTs : ∀ s ∈ T, s.size = m) (hgg : g ≠ gd) (hgx : xv.ownBlock ≠ some g) (hgz : g < w.heap.size) (hgw : w.cell? ⟨g, 257, none⟩ = some (.int .i64 (m : Int)))
    (hin : ∀ x ∈ H, Hin st (X.length + p.length) m T.length x) (hm0 : 0 < H.length → 0 < m) (hHl : H.length ≤ 16777300)
    (CF : ∀ W, Below w.heap.size w W → Calls Try.prog 30 #[.pointer (some ⟨gd, 0, none⟩), pv] W fun e w' => ∃ v lvv', e = .returned v ∧ w'.ownsRow W.heap.size 39 2 v H.length (hc H) ∧ Rdw gd g lvv' (n + p.length) tv xv pr hd false false w' ∧ Si .u8 lvv' L w' ∧ (∀ k, lvv'.ownBlock = some k → W.heap.size ≤ k) ∧ But gd W w')
    (CH : ∀ W lvv Y, Rsg Y 111 gd g lvv (n + p.length) W → Si .u8 lvv L W → w.heap.size ≤ W.heap.size → (∀ j, j < w.heap.size → ¬ (j = gd ∨ xv.ownBlock = some j) → W.heap[j]? = w.heap[j]?) → Calls Try.prog 34 #[.pointer (some ⟨gd, 0, none⟩)] W fun e w' => e = .returned (.int .i64 (hh : Int)) ∧ Below W.heap.size W w') :
    Calls Try.prog 67 #[.pointer (some ⟨gd, 0, none⟩), pv] w fun e w' => RgF gd g n m st T X p L H hh lv tv xv pr hd w.heap.size w e w' := by
  have gz : gd < w.heap.size := (Array.getElem?_eq_some_iff.1 hR).1
  obtain ⟨olv, nlv, clv, hlvf⟩ := hlvf
  subst hlvf
  obtain ⟨op, cp, hpo, -⟩ := hp.form
  subst hpo
  obtain ⟨ox0, cx0, hxo⟩ := own_size hXo
  subst hxo
  obtain ⟨XL, hXL⟩ : ∃ XL, XL = X.length := ⟨_, rfl⟩
  have HXL : Hid (XL = X.length) := hXL
  have c0 : w.cell? ⟨gd, 0, none⟩ = some (.pointer (some ⟨g, 0, none⟩)) := (cell_of_row w gd 0 _ _ _ hR).trans rfl
  have c1 : w.cell? ⟨gd, 1, none⟩ = some (.slice olv nlv clv) := (cell_of_row w gd 1 _ _ _ hR).trans rfl
  have c2 : w.cell? ⟨gd, 2, none⟩ = some (.int .i64 (n : Int)) := (cell_of_row w gd 2 _ _ _ hR).trans rfl
  have c7 : w.cell? ⟨gd, 7, none⟩ = some (.bool false) := (cell_of_row w gd 7 _ _ _ hR).trans rfl
  have c8 : w.cell? ⟨gd, 8, none⟩ = some (.bool false) := (cell_of_row w gd 8 _ _ _ hR).trans rfl
  obtain ⟨W0, hW0⟩ : ∃ W0, w.alloc (.cells #[.pointer (some ⟨g, 0, none⟩), (.slice olv nlv clv), .int .i64 (n : Int)] 105) = W0 := ⟨_, rfl⟩
  have b0 : Below w.heap.size w W0 := by rw [← hW0]; exact (Below.refl _ w).alloc (Nat.le_refl _) _
  have r0 : W0.heap[w.heap.size]? = some (.cells #[.pointer (some ⟨g, 0, none⟩), (.slice olv nlv clv), .int .i64 (n : Int)] 105 (0, 0)) := by rw [← hW0]; exact heap_alloc_new w _
  have z0 : W0.heap.size = w.heap.size + 1 := by rw [← hW0]; simp
  have hR0 : Rdw gd g (.slice olv nlv clv) n tv (.slice ox0 XL cx0) pr hd false false W0 := by rw [hXL]; exact (b0.block gd gz).trans hR
  have HK : Hid (W0.cell? ⟨gd, 2, none⟩ = some (.int .i64 (n : Int)) ∧ W0.cell? ⟨gd, 4, none⟩ = some (.slice ox0 XL cx0)) := ⟨(cell_of_row W0 gd 2 _ _ _ hR0).trans rfl, (cell_of_row W0 gd 4 _ _ _ hR0).trans rfl⟩
  have HW0 : Hid (w.alloc (.cells #[.pointer (some ⟨g, 0, none⟩), (.slice olv nlv clv), .int .i64 (n : Int)] 105) = W0) := hW0
  have eo : IntKind.i64.wrap ((n : Int) - (XL : Int)) = (st : Int) := by rw [wi _ (by unfold I64; omega)]; omega
  rw [← hXL] at CF CH hXo hXd hTg hgx hin hhp hst ⊢
  have HXO : Hid (w.ownsRow Bx 5 1 (.slice ox0 XL cx0) XL (ik .u8 X).toList ∧ Bx ≤ w.heap.size ∧ (Value.slice ox0 XL cx0).ownBlock ≠ some gd ∧ (Value.slice ox0 XL cx0).ownBlock ≠ some g) := ⟨hXo, hBx, hXd, hgx⟩
  have HCF : Hid _ := CF
  have HCH : Hid _ := CH
  have HB0 : Hid (Below w.heap.size w W0) := b0
  have HR0 : Hid (W0.heap[w.heap.size]? = some (.cells #[.pointer (some ⟨g, 0, none⟩), (.slice olv nlv clv), .int .i64 (n : Int)] 105 (0, 0)) ∧ W0.heap.size = w.heap.size + 1) := ⟨r0, z0⟩
  have HT : Hid (St tv T w ∧ (∀ j, tv.ownBlock = some j → ¬ (j = gd ∨ (Value.slice ox0 XL cx0).ownBlock = some j)) ∧ ∀ s ∈ T, s.size = m) := ⟨hT, fun j hj => by have := hTg j hj; rintro (h | h); exact this.1 h; exact this.2 h, hTs⟩
  have HP : Hid (Si .u8 (.slice op p.length cp) p w ∧ ∀ j, (Value.slice op p.length cp).ownBlock = some j → j ≠ gd) := ⟨hp, hpg⟩
  have HGW : Hid (w.cell? ⟨g, 257, none⟩ = some (.int .i64 (m : Int))) := hgw
  have HIN : Hid _ := hin
  have HST : Hid (n = st + XL) := hst
  obtain ⟨n2, hn2⟩ : ∃ n2, n2 = n + p.length := ⟨_, rfl⟩
  rw [← hn2] at HCF HCH
  have HN2 : Hid (n2 = n + p.length) := hn2
  obtain ⟨hpr1, hpr2⟩ := hpr
  obtain ⟨N, hN⟩ : ∃ N, N = XL + p.length := ⟨_, rfl⟩
  have HN : Hid (N = XL + p.length) := hN
  have hNb : N ≤ 16777280 := by omega
  have hstb : st ≤ 1125899906842624 := by omega
  have hXLb : XL ≤ 64 := by omega
  clear hN hn2 hW0 hR CF CH b0 r0 z0 hR0 hT hTg hTs hp hpg hgw hin hXo hBx hXd hgx hst hXL
  go_enter Try.func67, Try.ntmps67
  go_wp2_with fail
  rw [HW0.out]
  obtain ⟨k2, k4⟩ := HK.out
  go_quiet (fail)
  have C30 : Hid _ := HCF.out (W0.drewN nq) (Below.drewN' HB0.out nq)
  go_wp2_with fail
  refine Calls.mono C30.out ?_
  rintro e W1 ⟨hv, lvv, rfl, ho1, hr1, hl1, hlb, hb1⟩
  clear C30 HCF c0 c1 c2 c7 c8 k2 k4 HK HW0
  have HB1 : Hid (But gd w W1) := by
    have h0 : But gd w (W0.drewN nq) := ⟨HB0.out.os, HB0.out.tape, HB0.out.output, HB0.out.size, fun j hj _ => HB0.out.block j hj⟩
    exact ⟨hb1.os.trans h0.os, hb1.tape.trans h0.tape, hb1.output.trans h0.output, Nat.le_trans h0.size hb1.size, fun j hj hn => (hb1.block j (Nat.lt_of_lt_of_le hj h0.size) hn).trans (h0.block j hj hn)⟩
  have HA : Hid (W1.heap[w.heap.size]? = some (.cells #[.pointer (some ⟨g, 0, none⟩), (.slice olv nlv clv), .int .i64 (n : Int)] 105 (0, 0))) := (hb1.block w.heap.size (by have := HR0.out.2; show _ < W0.heap.size; omega) (by omega)).trans HR0.out.1
  have HO1 : Hid (W1.ownsRow (w.heap.size + 1) 39 2 hv H.length (hc H)) := by have := ho1; rw [show (W0.drewN nq).heap.size = w.heap.size + 1 from HR0.out.2] at this; exact this
  have HR1 : Hid (Rdw gd g lvv n2 tv (.slice ox0 XL cx0) pr hd false false W1) := hr1
  have HL1 : Hid (Si .u8 lvv L W1 ∧ ∀ k, lvv.ownBlock = some k → k < W1.heap.size) := ⟨hl1, hl1.blk⟩
  have HLG : Hid (∀ k, lvv.ownBlock = some k → w.heap.size ≤ k) := fun k hk => by have h1 := hlb k hk; have h2 := HR0.out.2; have h3 : W0.heap.size ≤ k := h1; omega
  have k5 : W1.cell? ⟨gd, 5, none⟩ = some (.int .i64 pr) := (cell_of_row W1 gd 5 _ _ _ hr1).trans rfl
  have HGC : Hid (∀ W, Sam W1 W → W.cell? ⟨gd, 0, none⟩ = some (.pointer (some ⟨g, 0, none⟩)) ∧ W.cell? ⟨g, 257, none⟩ = some (.int .i64 (m : Int))) := fun W hW => by
    refine ⟨(cell_of_row W gd 0 _ _ _ (by rw [hW.1]; exact HR1.out)).trans rfl, ?_⟩
    rw [World.cell?_of_block (w := w) (show W.heap[g]? = w.heap[g]? by rw [hW.1]; exact HB1.out.block g hgz hgg)]
    exact HGW.out
  have HBAD : Hid (∀ W, Sam W1 W → ∃ W2 W3 W4 W5, W.cell? ⟨w.heap.size, 0, none⟩ = some (.pointer (some ⟨g, 0, none⟩)) ∧ W.cell? ⟨w.heap.size, 1, none⟩ = some (.slice olv nlv clv) ∧ W.cell? ⟨w.heap.size, 2, none⟩ = some (.int .i64 (n : Int)) ∧
      W.cell? ⟨gd, 0, none⟩ = some (.pointer (some ⟨g, 0, none⟩)) ∧ W.frozen? ⟨gd, 0, none⟩ = false ∧ W.setCell ⟨gd, 0, none⟩ (.pointer (some ⟨g, 0, none⟩)) = W2 ∧
      W2.cell? ⟨gd, 1, none⟩ = some lvv ∧ W2.frozen? ⟨gd, 1, none⟩ = false ∧ W2.setCell ⟨gd, 1, none⟩ (.slice olv nlv clv) = W3 ∧
      W3.cell? ⟨gd, 2, none⟩ = some (.int .i64 (n2 : Int)) ∧ W3.frozen? ⟨gd, 2, none⟩ = false ∧ W3.setCell ⟨gd, 2, none⟩ (.int .i64 (n : Int)) = W4 ∧
      W4.cell? ⟨gd, 8, none⟩ = some (.bool false) ∧ W4.frozen? ⟨gd, 8, none⟩ = false ∧ W4.setCell ⟨gd, 8, none⟩ (.bool true) = W5 ∧ Hid (Rdw gd g (.slice olv nlv clv) n tv (.slice ox0 XL cx0) pr hd false true W5) ∧ Hid (Bt (fun j => j = gd) w W5) ∧ ∀ b o, b ≠ gd → W5.cell? ⟨b, o, none⟩ = W.cell? ⟨b, o, none⟩) := fun W hW => by
    have hA : W.heap[w.heap.size]? = some (.cells #[.pointer (some ⟨g, 0, none⟩), (.slice olv nlv clv), .int .i64 (n : Int)] 105 (0, 0)) := by rw [hW.1]; exact HA.out
    have hr : W.heap[gd]? = some (.cells #[.pointer (some ⟨g, 0, none⟩), lvv, .int .i64 (n2 : Int), tv, .slice ox0 XL cx0, .int .i64 pr, .int .i64 hd, .bool false, .bool false] 111 (0, 0)) := by rw [hW.1]; exact HR1.out
    have hr2 := heap_setCell_same W gd 0 _ _ (.pointer (some ⟨g, 0, none⟩)) hr
    have hr3 := heap_setCell_same _ gd 1 _ _ (.slice olv nlv clv) hr2
    have hr4 := heap_setCell_same _ gd 2 _ _ (.int .i64 (n : Int)) hr3
    have hr5 := heap_setCell_same _ gd 8 _ _ (.bool true) hr4
    refine ⟨_, _, _, _, (cell_of_row W _ 0 _ _ _ hA).trans rfl, (cell_of_row W _ 1 _ _ _ hA).trans rfl, (cell_of_row W _ 2 _ _ _ hA).trans rfl, (cell_of_row W _ 0 _ _ _ hr).trans rfl, frozen_of_row _ _ _ _ _ hr, rfl, (cell_of_row _ _ 1 _ _ _ hr2).trans rfl, frozen_of_row _ _ _ _ _ hr2, rfl, (cell_of_row _ _ 2 _ _ _ hr3).trans rfl, frozen_of_row _ _ _ _ _ hr3, rfl, (cell_of_row _ _ 8 _ _ _ hr4).trans rfl, frozen_of_row _ _ _ _ _ hr4, rfl, hr5.trans rfl, ⟨?_, ?_, ?_, ?_, fun j hj hn => ?_⟩, fun b o hb => ?_⟩
    · exact hW.2.1.trans HB1.out.os
    · exact hW.2.2.1.trans HB1.out.tape
    · exact hW.2.2.2.trans HB1.out.output
    · have := HB1.out.size
      have h2 : W.heap.size = W1.heap.size := by rw [hW.1]
      simp [World.setCell]; omega
    · rw [heap_setCell_other _ _ _ _ hn, heap_setCell_other _ _ _ _ hn, heap_setCell_other _ _ _ _ hn, heap_setCell_other _ _ _ _ hn, hW.1]
      exact HB1.out.block j hj hn
    · exact World.cell?_of_block (by rw [heap_setCell_other _ _ _ _ hb, heap_setCell_other _ _ _ _ hb, heap_setCell_other _ _ _ _ hb, heap_setCell_other _ _ _ _ hb])
  obtain ⟨oh, ch, hoh⟩ := own_size ho1
  subst hoh
  clear ho1 hr1 hl1 hlb hb1
  have HD0 : Hid (dcP (m : Int) pr H = dcP (m : Int) pr (H.drop 0)) := rfl
  have HQ0 : Hid (frL pr (H.take 0) = pr) := rfl
  go_wp2_with fail
  go_loopw [10, 11] (fun pv iv wr => ∃ (k : Nat) (q : Int), iv = .int .i64 (k : Int) ∧ k ≤ H.length ∧ pv = .int .i64 q ∧ -100 ≤ q ∧ q ≤ 1125899923619904 ∧ Hid (dcP (m : Int) pr H = dcP (m : Int) q (H.drop k)) ∧ Hid (frL pr (H.take k) = q) ∧ Hid (Sam W1 wr)) (fun _ iv _ => H.length - (intOf iv).toNat)
  case atStart => exact ⟨0, pr, rfl, by omega, rfl, by omega, by omega, HD0, HQ0, ⟨rfl, rfl, rfl, rfl⟩⟩
  case round =>
    clear HD0 k5 HQ0
    obtain ⟨k, q, rfl, hk, rfl, hq1, hq2, HD, HQ, HS⟩ := hrel
    by_cases hlt : k < H.length
    · have hk0 : (0 : Int) ≤ (k : Int) := by omega
      have hk1 : (k : Int) < (H.length : Int) := by omega
      have hxe : H.getD k (0, 0) = H[k] := by simp [List.getD, hlt]
      obtain ⟨ii, kk, hxx, n1, n2', n3⟩ := HIN.out (H.getD k (0, 0)) (by rw [hxe]; exact List.getElem_mem hlt)
      obtain ⟨bh, cph, curh, hvh, bh0, rh, -⟩ := own_slice HO1.out (by omega)
      cases hvh
      have HCB : Hid (∀ W, Sam W1 W → W.cell? ⟨bh, k * 2, none⟩ = some (.int .i64 (ii : Int))) := fun W hW => by
        rw [World.cell?_of_block (w := W1) (by rw [hW.1])]
        obtain ⟨hHl, _⟩ := hl_own HO1.out
        rcases hHl with ⟨h, _⟩ | ⟨b', off', cap', h, _, _, _, h6⟩
        · cases h
        · have h7 := (h6 k hlt).1
          rw [hxx] at h7
          cases h
          rw [Nat.zero_add] at h7
          exact h7
      have e1 := HCB.out wr HS.out
      obtain ⟨e2, e3⟩ := HGC.out wr HS.out
      have ew : IntKind.i64.wrap ((ii : Int) - q) = (ii : Int) - q := wi _ (by unfold I64; omega)
      have hdrop : H.drop k = ((ii : Int), (kk : Int)) :: H.drop (k + 1) := by rw [List.drop_eq_getElem_cons hlt, ← hxe, hxx]
      have HQ1 : Hid (frL pr (H.take (k + 1)) = (ii : Int)) := by show _ = _; rw [take_snocH hlt, frL_snoc, hxx]
      have bhg : bh ≠ gd := by omega
      by_cases hcc : (ii : Int) - q < (m : Int)
      · have HDA : Hid (dcP (m : Int) pr H = some (ii : Int)) := by show _ = _; rw [HD.out, hdrop, dcP, if_pos hcc]
        clear hdrop hxe hxx HD HQ HQ1
        go_wp2_with fail
        go_quiet (fail)
        obtain ⟨W2, W3, W4, W5, s1, s2, s3, s4, s5, s6, s7, s8, s9, s10, s11, s12, s13, s14, s15, s16, s16b, s17⟩ := HBAD.out (wr.drewN nq) (HS.out.drewN nq)
        have e4 : W5.cell? ⟨bh, k * 2, none⟩ = some (.int .i64 (ii : Int)) := (s17 bh _ bhg).trans (HCB.out _ (HS.out.drewN nq))
        have HE : Hid (∀ q, RgF gd g n m st T X p L H hh (.slice olv nlv clv) tv (.slice ox0 XL cx0) pr hd w.heap.size w (.returned (.tuple #[.slice none 0 0, .int .i64 52, .int .i64 (ii : Int)])) (W5.drewN q)) := fun q => .inl ⟨_, HDA.out, rfl, s16.out, ⟨s16b.out.os, s16b.out.tape, s16b.out.output, s16b.out.size, s16b.out.block⟩⟩
        clear s16 s16b s17 HBAD HCB e1 e2 e3
        go_wp2_with fail
        go_quiet (fail)
        go_wp2
        go_ret3
        exact HE.out _
      · have HDA : Hid (dcP (m : Int) pr H = dcP (m : Int) (ii : Int) (H.drop (k + 1))) := by show _ = _; rw [HD.out, hdrop, dcP, if_neg hcc]
        have HCB2 : Hid (∀ n, (wr.drewN n).cell? ⟨bh, k * 2, none⟩ = some (.int .i64 (ii : Int))) := fun n => HCB.out _ (HS.out.drewN n)
        clear hdrop hxe hxx HD HBAD HCB HQ
        go_wp2_with fail
        go_quiet (fail)
        have e4 := HCB2.out nq
        go_wp2
        exact ⟨⟨k + 1, (ii : Int), by rfl, by omega, rfl, by omega, by omega, HDA, HQ1, HS.out.drewN _⟩, by simp only [intOf]; omega⟩
    · have hk1 : ¬ ((k : Int) < (H.length : Int)) := by omega
      have HDN : Hid (dcP (m : Int) pr H = none) := by show _ = _; rw [HD.out, List.drop_of_length_le (by omega)]; rfl
      have HQN : Hid (frL pr H = q) := by have := HQ.out; rw [List.take_of_length_le (by omega)] at this; exact this
      obtain ⟨wo, rfl⟩ : ∃ wo, wo = wr := ⟨_, rfl⟩
      have hro : Rdw gd g lvv n2 tv (.slice ox0 XL cx0) pr hd false false wo := by unfold Rdw; rw [HS.out.1]; exact HR1.out
      have x5 : wo.cell? ⟨gd, 5, none⟩ = some (.int .i64 pr) := (cell_of_row wo gd 5 _ _ _ hro).trans rfl
      have y5 : wo.frozen? ⟨gd, 5, none⟩ = false := frozen_of_row _ _ _ _ _ hro
      obtain ⟨W2, hW2⟩ : ∃ W2, wo.setCell ⟨gd, 5, none⟩ (.int .i64 q) = W2 := ⟨_, rfl⟩
      have hr2 : Rdw gd g lvv n2 tv (.slice ox0 XL cx0) q hd false false W2 := by rw [← hW2]; exact (heap_setCell_same _ _ _ _ _ _ hro).trans rfl
      have oth2 : ∀ j, j ≠ gd → W2.heap[j]? = W1.heap[j]? := fun j hj => by rw [← hW2, heap_setCell_other _ _ _ _ hj, HS.out.1]
      have z2 : W2.heap.size = W1.heap.size := by rw [← hW2]; simp [World.setCell, HS.out.1]
      have hz1 := HB1.out.size
      have hb2 : But gd w W2 := ⟨by rw [← hW2]; exact HS.out.2.1.trans HB1.out.os, by rw [← hW2]; exact HS.out.2.2.1.trans HB1.out.tape, by rw [← hW2]; exact HS.out.2.2.2.trans HB1.out.output, by omega, fun j hj hn => (oth2 j hn).trans (HB1.out.block j hj hn)⟩
      have x4 : W2.cell? ⟨gd, 4, none⟩ = some (.slice ox0 XL cx0) := (cell_of_row W2 gd 4 _ _ _ hr2).trans rfl
      have hp2 : Si .u8 (.slice op p.length cp) p W2 := HP.out.1.keep hb2.size fun j hj hz => hb2.block j hz (HP.out.2 j hj)
      have hxb : ∀ k, (Value.slice ox0 XL cx0).ownBlock = some k → k < w.heap.size ∧ k ≠ gd := fun k hk => ⟨(HXO.out.1.lt k hk).2, fun e => HXO.out.2.2.1 (by rw [hk, e])⟩
      have hx2 : W2.ownsRow Bx 5 1 (.slice ox0 XL cx0) XL (ik .u8 X).toList := own_keep2 HXO.out.1 fun k hk => hb2.block k (hxb k hk).1 (hxb k hk).2
      obtain ⟨vt, W3, r3, o3, b3, bl3⟩ := run_apPw W2 Bx XL 23 _ X p _ hx2 hp2 (by omega) (Nat.le_trans HXO.out.2.1 hb2.size)
      have gz2 : gd < W2.heap.size := by omega
      have hr3 := (b3.block gd gz2 (fun e => HXO.out.2.2.1 e.symm)).trans hr2
      have x4' : W3.cell? ⟨gd, 4, none⟩ = some (.slice ox0 XL cx0) := (cell_of_row W3 gd 4 _ _ _ hr3).trans rfl
      have y4' : W3.frozen? ⟨gd, 4, none⟩ = false := frozen_of_row _ _ _ _ _ hr3
      rw [← HN.out] at o3
      obtain ⟨ovt, cvt, hvt⟩ := own_size o3
      subst hvt
      obtain ⟨W4, hW4⟩ : ∃ W4, W3.setCell ⟨gd, 4, none⟩ (.slice ovt N cvt) = W4 := ⟨_, rfl⟩
      have oth4 : ∀ j, j ≠ gd → W4.heap[j]? = W3.heap[j]? := fun j hj => by rw [← hW4, heap_setCell_other _ _ _ _ hj]
      have z4 : W4.heap.size = W3.heap.size := by rw [← hW4]; simp [World.setCell]
      have hHvL : ∀ k, (Value.slice oh H.length ch).ownBlock = some k → w.heap.size < k ∧ k < W2.heap.size := fun k hk => by have := HO1.out.lt k hk; omega
      have hlvL : ∀ k, lvv.ownBlock = some k → w.heap.size ≤ k ∧ k < W2.heap.size := fun k hk => by have := HL1.out.2 k hk; have := HLG.out k hk; omega
      have hvtB : ∀ j, (Value.slice ovt N cvt).ownBlock = some j → ((j = gd ∨ (Value.slice ox0 XL cx0).ownBlock = some j) ∨ W2.heap.size ≤ j) ∧ j ≠ gd := fun j hj => by
        rcases bl3 with h | h
        · rw [h] at hj
          exact ⟨.inl (.inr hj), (hxb j hj).2⟩
        · rw [h] at hj
          have : W2.heap.size = j := Option.some.inj hj
          exact ⟨.inr (by omega), by omega⟩
      have hlvV : ∀ j, lvv.ownBlock = some j → (Value.slice ovt N cvt).ownBlock ≠ some j := fun j hj e => by
        have h1 := hlvL j hj
        rcases (hvtB j e).1 with (h | h) | h
        · omega
        · have := hxb j h; omega
        · omega
      have hne3 : ∀ k, w.heap.size ≤ k → some k ≠ (Value.slice ox0 XL cx0).ownBlock := fun k hk e => by have := hxb k e.symm; omega
      have HI0 : Hid (fg_inv gd g n2 N (w.heap.size + 1) Bx W2.heap.size st T lvv tv (.slice oh H.length ch) (.slice ovt N cvt) q hd (X ++ p) L H (fun j => j = gd ∨ (Value.slice ox0 XL cx0).ownBlock = some j) w W4 0) := by
        refine ⟨own_keep2 o3 fun k hk => oth4 k (hvtB k hk).2, own_keep2 HO1.out fun k hk => ?_, ?_, by have := b3.size; omega, ?_, ?_⟩
        · have h1 := hHvL k hk
          rw [oth4 k (by omega), b3.block k h1.2 (hne3 k (by omega)), oth2 k (by omega)]
        · refine ⟨by rw [← hW4]; exact b3.os.trans hb2.os, by rw [← hW4]; exact b3.tape.trans hb2.tape, by rw [← hW4]; exact b3.output.trans hb2.output, by have := b3.size; omega, fun j hj hn => ?_⟩
          rw [oth4 j (fun e => hn (.inl e)), b3.block j (by omega) (fun e => hn (.inr e.symm))]
          exact hb2.block j hj (fun e => hn (.inl e))
        · rw [← hW4]; exact (heap_setCell_same _ _ _ _ _ _ hr3).trans rfl
        · exact HL1.out.1.keep (by have := b3.size; omega) fun j hj hz => by
            have h1 := hlvL j hj
            rw [oth4 j (by omega), b3.block j h1.2 (hne3 j h1.1), oth2 j (by omega)]
      have HSTP : Hid (∀ wr k, fg_inv gd g n2 N (w.heap.size + 1) Bx W2.heap.size st T lvv tv (.slice oh H.length ch) (.slice ovt N cvt) q hd (X ++ p) L H (fun j => j = gd ∨ (Value.slice ox0 XL cx0).ownBlock = some j) w wr k → k < H.length → _) := fun wr k hI hk => fg_step gd g n2 N (w.heap.size + 1) Bx W2.heap.size st m T HT.out.2.2 lvv tv (.slice oh H.length ch) (.slice ovt N cvt) q hd (X ++ p) L H _ w wr k hI hk (hm0 (by omega)) (by rw [HN.out]; exact HIN.out) HT.out.1 HT.out.2.1 hvtB (by omega) hlvV
      have HZ2 : Hid (w.heap.size ≤ W2.heap.size ∧ ∀ j, (Value.slice ovt N cvt).ownBlock = some j → j ≠ gd) := ⟨by omega, fun j hj => (hvtB j hj).2⟩
      clear HD hro hr2 oth2 z2 hz1 hb2 hp2 o3 b3 hr3 oth4 z4 hHvL hlvL hlvV HS HBAD HGC HO1 HR1 HL1 HA HB1 HB0 HR0 HGW HP HXO hxb hx2 bl3 hvtB hne3 HQ
      go_wp2_with fail
      go_loopw [12] (fun iv wr => ∃ k : Nat, iv = .int .i64 (k : Int) ∧ k ≤ H.length ∧ Hid (fg_inv gd g n2 N (w.heap.size + 1) Bx W2.heap.size st T lvv tv (.slice oh H.length ch) (.slice ovt N cvt) q hd (X ++ p) L H (fun j => j = gd ∨ (Value.slice ox0 XL cx0).ownBlock = some j) w wr k)) (fun iv _ => H.length - (intOf iv).toNat)
      case atStart => exact ⟨0, rfl, by omega, HI0⟩
      case round =>
        clear HI0 r3 x4 x4' y4' x5 y5 hW2 hW4
        obtain ⟨k2, rfl, hk2, HI⟩ := hrel
        by_cases hlt2 : k2 < H.length
        · have hk0' : (0 : Int) ≤ (k2 : Int) := by omega
          have hk1' : (k2 : Int) < (H.length : Int) := by omega
          obtain ⟨hb, hcp, gT, c, i, kk, bT, offT, cT, tw, v1, v2, v3, n3, hiN, hNc, e1, e2, e3, e4, e5, W5, rc, HI2⟩ := HSTP.out wr k2 HI.out hlt2
          cases v1
          cases v2
          subst v3
          have HI3 : Hid (fg_inv gd g n2 N (w.heap.size + 1) Bx W2.heap.size st T lvv (.slice (some ⟨bT, offT, none⟩) T.length cT) (.slice (some ⟨hb, 0, none⟩) H.length ch) (.slice (some ⟨gT, 0, none⟩) N cvt) q hd (X ++ p) L H (fun j => j = gd ∨ (Value.slice ox0 XL cx0).ownBlock = some j) w W5 (k2 + 1)) := HI2
          clear HI2 HSTP HI
          have rs := run_cutC gT N cvt i hiN hNc
          have hkk0 : (0 : Int) ≤ (kk : Int) := by omega
          have hkk1 : (kk : Int) < (T.length : Int) := by omega
          obtain ⟨ai, hai⟩ : ∃ ai, ai = st + i := ⟨_, rfl⟩
          rw [← hai] at e1
          have w1 : IntKind.i64.wrap ((ai : Int) - (st : Int)) = (i : Int) := by rw [wi _ (by unfold I64; omega)]; omega
          have w2 : (i : Int) < 9223372036854775808 := by omega
          obtain ⟨TL, hTL⟩ : ∃ TL, TL = T.length := ⟨_, rfl⟩
          have HTL : Hid (TL = T.length) := hTL
          rw [← hTL] at e3 hkk1
          clear hTL hai
          go_wp2_with fail
          go_big_region
          go_wp2
          exact ⟨⟨k2 + 1, by rfl, by omega, HI3⟩, by simp only [intOf]; omega⟩
        · have hk1' : ¬ ((k2 : Int) < (H.length : Int)) := by omega
          have hke : k2 = H.length := by omega
          obtain ⟨i1, i2, i3, i4, i5, i6⟩ := HI.out
          rw [hke, List.take_length] at i1
          have C34 : Hid (Calls Try.prog 34 #[.pointer (some ⟨gd, 0, none⟩)] wr fun e w' => e = .returned (.int .i64 (hh : Int)) ∧ Below wr.heap.size wr w') := HCH.out wr lvv [tv, .slice ovt N cvt, .int .i64 q, .int .i64 hd, .bool false, .bool false] i5 i6 i3.size i3.block
          obtain ⟨wp, rfl⟩ : ∃ wp, wp = wr := ⟨_, rfl⟩
          obtain ⟨P, hP⟩ : ∃ P, P = puts T st (X ++ p) H := ⟨_, rfl⟩
          rw [← hP] at i1
          have hPl : P.length = N := by rw [hP, puts_len (m := m) HT.out.2.2 H _ (by rw [List.length_append, ← HXL.out]; exact HIN.out), List.length_append, ← HXL.out, HN.out]
          have HPE : Hid (P = puts T st (X ++ p) H ∧ P.length = N) := ⟨hP, hPl⟩
          have HIV : Hid (wp.ownsRow Bx 5 1 (.slice ovt N cvt) N (ik .u8 P).toList ∧ Bt (fun j => j = gd ∨ (Value.slice ox0 XL cx0).ownBlock = some j) w wp ∧ W2.heap.size ≤ wp.heap.size ∧ Rdw gd g lvv n2 tv (.slice ovt N cvt) q hd false false wp ∧ Si .u8 lvv L wp) := ⟨i1, i3, i4, i5, i6⟩
          clear HI HSTP hke i1 i2 i3 i4 i5 i6 hP hPl HCH
          go_wp2_with fail
          refine Calls.mono C34.out ?_
          rintro e W5 ⟨rfl, b5⟩
          clear C34
          obtain ⟨i1, i3, i4, i5, i6⟩ := HIV.out
          have gzp : gd < wp.heap.size := by have := i3.size; omega
          have hr5 := (b5.block gd gzp).trans i5
          have x6 : W5.cell? ⟨gd, 6, none⟩ = some (.int .i64 hd) := (cell_of_row W5 gd 6 _ _ _ hr5).trans rfl
          have y6 : W5.frozen? ⟨gd, 6, none⟩ = false := frozen_of_row _ _ _ _ _ hr5
          obtain ⟨W6, hW6⟩ : ∃ W6, W5.setCell ⟨gd, 6, none⟩ (.int .i64 (hh : Int)) = W6 := ⟨_, rfl⟩
          have hr6 : Rdw gd g lvv n2 tv (.slice ovt N cvt) q (hh : Int) false false W6 := by rw [← hW6]; exact (heap_setCell_same _ _ _ _ _ _ hr5).trans rfl
          have oth6 : ∀ j, j ≠ gd → W6.heap[j]? = W5.heap[j]? := fun j hj => by rw [← hW6, heap_setCell_other _ _ _ _ hj]
          have z6 : W6.heap.size = W5.heap.size := by rw [← hW6]; simp [World.setCell]
          have hb6 : Bt (fun j => j = gd ∨ (Value.slice ox0 XL cx0).ownBlock = some j) w W6 := by
            refine ⟨by rw [← hW6]; exact b5.os.trans i3.os, by rw [← hW6]; exact b5.tape.trans i3.tape, by rw [← hW6]; exact b5.output.trans i3.output, by have := b5.size; have := i3.size; omega, fun j hj hn => ?_⟩
            rw [oth6 j (fun e => hn (.inl e)), b5.block j (by have := i3.size; omega)]
            exact i3.block j hj hn
          have o6 : W6.ownsRow Bx 5 1 (.slice ovt N cvt) N (ik .u8 P).toList := own_keep2 i1 fun k hk => by
            have h1 := i1.lt k hk
            rw [oth6 k (HZ2.out.2 k hk), b5.block k h1.2]
          have l6 : Si .u8 lvv L W6 := i6.keep (by have := b5.size; omega) fun k hk hz => by
            have h1 := HLG.out k hk
            rw [oth6 k (by omega), b5.block k hz]
          obtain ⟨nn, hnn⟩ : ∃ nn, nn = N - hh := ⟨_, rfl⟩
          have hhN : hh ≤ N := by have := HN.out; omega
          have eN : IntKind.i64.wrap ((N : Int) - (hh : Int)) = (nn : Int) := by rw [wi _ (by unfold I64; omega)]; omega
          have HQ6 : Hid (∀ W, W.heap = W6.heap → W.os = W6.os → W.tape = W6.tape → W.output = W6.output → ∃ o1 c1 vg W7 o2 l2 c2 W8,
              W.cell? ⟨gd, 4, none⟩ = some (.slice ovt N cvt) ∧ (∀ U, (slB (.slice ovt N cvt) none (some (.int .i64 (nn : Int))) none).run Try.prog U = .ok (.slice o1 nn c1) U) ∧ (apP 23 #[.slice none 0 0, .slice o1 nn c1]).run Try.prog W = .ok vg W7 ∧
              W7.cell? ⟨gd, 4, none⟩ = some (.slice ovt N cvt) ∧ (∀ U, (slB (.slice ovt N cvt) (some (.int .i64 (nn : Int))) none none).run Try.prog U = .ok (.slice o2 l2 c2) U) ∧ ∃ or lr cr, (apP 23 #[.slice none 0 0, .slice o2 l2 c2]).run Try.prog W7 = .ok (.slice or lr cr) W8 ∧
              W8.cell? ⟨gd, 4, none⟩ = some (.slice ovt N cvt) ∧ W8.frozen? ⟨gd, 4, none⟩ = false ∧ Hid (RgF gd g n m st T X p L H hh (.slice olv nlv clv) tv (.slice ox0 XL cx0) pr hd w.heap.size w (.returned (.tuple #[vg, .int .i64 0, .int .i64 0])) (W8.setCell ⟨gd, 4, none⟩ (.slice or lr cr)))) := fun W w1 w2 w3 w4 => by
            have zW : W.heap.size = W6.heap.size := by rw [w1]
            have hbW : Bt (fun j => j = gd ∨ (Value.slice ox0 XL cx0).ownBlock = some j) w W := ⟨w2.trans hb6.os, w3.trans hb6.tape, w4.trans hb6.output, by rw [zW]; exact hb6.size, fun j hj hn => by rw [w1]; exact hb6.block j hj hn⟩
            have hrW : Rdw gd g lvv n2 tv (.slice ovt N cvt) q (hh : Int) false false W := by unfold Rdw; rw [w1]; exact hr6
            have oW : W.ownsRow Bx 5 1 (.slice ovt N cvt) N (ik .u8 P).toList := own_keep2 o6 fun _ _ => by rw [w1]
            have lW : Si .u8 lvv L W := l6.keep (by omega) fun k _ _ => by rw [w1]
            have sW : Si .u8 (.slice ovt N cvt) P W := own_si oW HPE.out.2.symm
            obtain ⟨o1, c1, u1, u2⟩ := cut_h sW nn (by rw [HPE.out.2]; omega)
            obtain ⟨vg, W7, u3, u4, u5⟩ := run_apP W W.heap.size 0 23 (.slice none 0 0) [] _ _ (World.ownsRow_nil _ _ _ _) u2 (by rw [List.length_take]; omega) (Nat.le_refl _)
            have sW7 : Si .u8 (.slice ovt N cvt) P W7 := sW.below u5
            obtain ⟨o2, l2, c2, u6, u7⟩ := cut_l sW7 nn (by rw [HPE.out.2]; omega)
            obtain ⟨vr, W8, u8, u9, u10⟩ := run_apP W7 W7.heap.size 0 23 (.slice none 0 0) [] _ _ (World.ownsRow_nil _ _ _ _) u7 (by rw [List.length_drop, HPE.out.2]; omega) (Nat.le_refl _)
            obtain ⟨or, cr, hvr⟩ := own_size u9
            subst hvr
            have gzW : gd < W.heap.size := (Array.getElem?_eq_some_iff.1 hrW).1
            have gz7 : gd < W7.heap.size := by have := u5.size; omega
            have hr7 := (u5.block gd gzW).trans hrW
            have hr8 := (u10.block gd gz7).trans hr7
            have hzw := hbW.size
            have hz7 := u5.size
            have oth9 : ∀ j, j ≠ gd → (W8.setCell ⟨gd, 4, none⟩ (.slice or (0 + (P.drop nn).length) cr)).heap[j]? = W8.heap[j]? := fun j hj => heap_setCell_other _ _ _ _ hj
            have hhl : 0 + (P.drop nn).length = hh := by rw [List.length_drop, HPE.out.2]; omega
            refine ⟨o1, c1, vg, W7, o2, l2, c2, W8, (cell_of_row W _ 4 _ _ _ hrW).trans rfl, u1, u3, (cell_of_row W7 _ 4 _ _ _ hr7).trans rfl, u6, or, _, cr, u8, (cell_of_row W8 _ 4 _ _ _ hr8).trans rfl, frozen_of_row _ _ _ _ _ hr8, ?_⟩
            refine .inr ⟨HDN.out, vg, lvv, or, 0 + (P.drop nn).length, cr, q, rfl, ?_, ?_, ?_, ?_, ?_, HLG.out, ?_⟩
            · rw [← HXL.out, ← HN.out, ← hnn, ← HPE.out.1]
              have hl1 : 0 + (P.take nn).length = nn := by rw [List.length_take, HPE.out.2]; omega
              rw [List.nil_append, hl1] at u4
              refine own_down (own_keep2 u4 fun k hk => ?_) hbW.size
              have h1 := u4.lt k hk
              rw [oth9 k (by omega), u10.block k h1.2]
            · rw [← HN2.out]; exact (heap_setCell_same _ _ _ _ _ _ hr8).trans rfl
            · exact HQN.out.symm
            · rw [← HXL.out, ← HN.out, ← hnn, ← HPE.out.1]
              rw [List.nil_append] at u9
              have : (W8.setCell ⟨gd, 4, none⟩ (.slice or (0 + (P.drop nn).length) cr)).ownsRow w.heap.size 5 1 (.slice or (0 + (P.drop nn).length) cr) (0 + (P.drop nn).length) (ik .u8 (P.drop nn)).toList := own_down (own_keep2 u9 fun k hk => oth9 k (by have := (u9.lt k hk).1; omega)) (by omega)
              rw [hhl] at this ⊢
              exact this
            · exact lW.keep (by have := u10.size; simp [World.setCell]; omega) fun k hk hz => by
                have h1 := HLG.out k hk
                rw [oth9 k (by omega), u10.block k (by omega), u5.block k hz]
            · refine ⟨u10.os.trans (u5.os.trans hbW.os), u10.tape.trans (u5.tape.trans hbW.tape), u10.output.trans (u5.output.trans hbW.output), ?_, fun j hj hn => ?_⟩
              · have := u10.size
                simp [World.setCell]; omega
              · rw [oth9 j (fun e => hn (.inl e)), u10.block j (by omega), u5.block j (by omega)]
                exact hbW.block j hj hn
          have c4r : W6.cell? ⟨gd, 4, none⟩ = some (.slice ovt N cvt) := (cell_of_row W6 gd 4 _ _ _ hr6).trans rfl
          have c6r : W6.cell? ⟨gd, 6, none⟩ = some (.int .i64 (hh : Int)) := (cell_of_row W6 gd 6 _ _ _ hr6).trans rfl
          clear hr5 hr6 oth6 z6 hb6 o6 l6 hnn b5 i1 i3 i4 i5 i6 HIV HPE gzp
          go_wp2_with fail
          go_quiet (fail)
          obtain ⟨o1, c1, vg, W7, o2, l2, c2, W8, q1, q2, q3, q4, q5, or, lr, cr, q6, q7, q8, HE⟩ := HQ6.out (W6.drewN nq) rfl rfl rfl rfl
          clear HQ6
          go_wp2
          go_ret3
          exact HE.out
end Go.Proofs.Ytceaklefdahfkab

/- SieveCuts: what pieces bring is what the whole brings. -/
namespace Go.Proofs.Ytceaklefdahfkab
open Go.RowKit
/-- The hits of some bytes and a piece more. -/
theorem hts_app (L : List (List Nat)) (m : Nat) (hm : 0 < m) (y p : List Nat) : hts L m (y ++ p) = hts L m y ++ hit2 L m y p := by
  have hl := lastN_len m y
  have hk : y.length - (lastN m y).length = y.length + 1 - m := by omega
  have hz : lastN m y ++ p = (y ++ p).drop (y.length + 1 - m) := by
    rw [List.drop_append_of_le_length (by omega), lastN]
    congr 2
    omega
  have hr : (y ++ p).length + 1 - m = (y.length + 1 - m) + ((lastN m y ++ p).length + 1 - m) := by
    rw [List.length_append, List.length_append, hl]; omega
  unfold hit2
  rw [hts, hr, List.range_add, List.flatMap_append]
  congr 1
  · rw [hts]
    have : ∀ i ∈ List.range (y.length + 1 - m), htA L m (y ++ p) i = htA L m y i := fun i hi => by
      have hi2 := List.mem_range.1 hi
      unfold htA
      have e : ((y ++ p).drop i).take m = (y.drop i).take m := by
        rw [List.drop_append_of_le_length (by omega), List.take_append_of_le_length (by rw [List.length_drop]; omega)]
      rw [e]
    rw [List.flatMap_def, List.flatMap_def, List.map_congr_left this]
  · rw [hk, hts, List.map_flatMap, hz, List.flatMap_map]
    congr 1
    funext i
    exact (htA_drop L m (y ++ p) (y.length + 1 - m) i).symm
theorem hld_ge (L : List (List Nat)) (x : List Nat) (k : Nat) (hk : 0 < k) (hu : ∃ u ∈ L, u.take k = x.drop (x.length - k)) : ∀ K, k ≤ K → k ≤ hld L x K
  | 0, h => by omega
  | K + 1, h => by
    rw [hld]
    split
    · omega
    · rename_i hn
      refine hld_ge L x k hk hu K ?_
      rcases Nat.lt_or_ge k (K + 1) with h1 | h1
      · omega
      · have : k = K + 1 := by omega
        exact absurd (this ▸ hu) hn
theorem hld_is (L : List (List Nat)) (x : List Nat) : ∀ K, 0 < hld L x K → ∃ u ∈ L, u.take (hld L x K) = x.drop (x.length - hld L x K)
  | 0, h => by simp [hld] at h
  | K + 1, h => by
    by_cases hc : ∃ u ∈ L, u.take (K + 1) = x.drop (x.length - (K + 1))
    · have e : hld L x (K + 1) = K + 1 := by rw [hld, if_pos hc]
      rw [e]; exact hc
    · have e : hld L x (K + 1) = hld L x K := by rw [hld, if_neg hc]
      rw [e] at h ⊢
      exact hld_is L x K h
theorem lastN_drop (m : Nat) (y : List Nat) (k : Nat) (hk : k ≤ min (m - 1) y.length) : (lastN m y).drop ((lastN m y).length - k) = y.drop (y.length - k) := by
  rw [lastN_len, lastN, List.drop_drop]
  congr 1
  omega
theorem hld2_lm (L : List (List Nat)) (m : Nat) (y : List Nat) : hld2 L m y ≤ min (m - 1) y.length := hld_le _ _ _
theorem hld2_ge (L : List (List Nat)) (m : Nat) (y : List Nat) (k : Nat) (hk0 : 0 < k) (hk : k ≤ min (m - 1) y.length) (hu : ∃ u ∈ L, u.take k = y.drop (y.length - k)) : k ≤ hld2 L m y := by
  unfold hld2
  refine hld_ge L _ k hk0 ?_ _ hk
  rw [lastN_drop m y k hk]; exact hu
theorem hld2_is (L : List (List Nat)) (m : Nat) (y : List Nat) (h : 0 < hld2 L m y) : ∃ u ∈ L, u.take (hld2 L m y) = y.drop (y.length - hld2 L m y) := by
  have : ∃ u ∈ L, u.take (hld2 L m y) = (lastN m y).drop ((lastN m y).length - hld2 L m y) := hld_is L (lastN m y) _ h
  rw [lastN_drop m y _ (hld2_lm L m y)] at this
  exact this
/-- A piece more: no more is held than was, and the piece. -/
theorem hld2_app (L : List (List Nat)) (m : Nat) (y p : List Nat) : hld2 L m (y ++ p) ≤ hld2 L m y + p.length := by
  rcases Nat.lt_or_ge p.length (hld2 L m (y ++ p)) with h | h
  · obtain ⟨u, hu, he⟩ := hld2_is L m (y ++ p) (by omega)
    have hle := hld2_lm L m (y ++ p)
    rw [List.length_append] at hle he
    generalize hk : hld2 L m (y ++ p) = k at *
    have := hld2_ge L m y (k - p.length) (by omega) (by omega) ⟨u, hu, ?_⟩
    · omega
    · have h1 : u.take (k - p.length) = (u.take k).take (k - p.length) := by rw [List.take_take]; congr 1; omega
      rw [h1, he, List.drop_append_of_le_length (by omega), List.take_append_of_le_length (by rw [List.length_drop]; omega), List.take_of_length_le (by rw [List.length_drop]; omega)]
      congr 1
      omega
  · omega
/-- Where the hits of a further piece lie. -/
theorem hit2_in (L : List (List Nat)) (m : Nat) (hm : 0 < m) (y p : List Nat) (nT : Nat) (hn : nT = L.length) : ∀ x ∈ hit2 L m y p, Hin (y.length - hld2 L m y) (hld2 L m y + p.length) m nT x := fun x hx => by
  have hl := lastN_len m y
  have hle := hld2_lm L m y
  have hx2 : x ∈ hts L m (y ++ p) := by rw [hts_app L m hm]; exact List.mem_append_right _ hx
  obtain ⟨i, k, h1, h2, h3, h4⟩ := hts_sth L m (y ++ p) x hx2
  rw [List.length_append] at h2
  obtain ⟨x', hx', he⟩ := List.mem_map.1 hx
  obtain ⟨i', k', g1, g2, g3, g4⟩ := hts_sth L m _ x' hx'
  have hi : i = i' + (y.length - (lastN m y).length) := by
    rw [h1, g1] at he
    simp only [shf, Prod.mk.injEq] at he
    omega
  refine ⟨i, k, h1, ?_, by omega, by omega⟩
  rcases Nat.lt_or_ge i y.length with hc | hc
  · have hkk := hld2_ge L m y (y.length - i) (by omega) (by omega) ⟨L.getD k [], getS_mem h3, ?_⟩
    · omega
    · rw [h4, List.take_take, Nat.min_eq_left (by omega), List.drop_append_of_le_length (by omega), List.take_append_of_le_length (by rw [List.length_drop]; omega), List.take_of_length_le (by rw [List.length_drop]; omega)]
      congr 1
      omega
  · omega
theorem ovr_appR (a b e : List Nat) (o : Nat) (h : o + e.length ≤ a.length) : ovr (a ++ b) e o = ovr a e o ++ b := by
  unfold ovr
  rw [List.take_append_of_le_length (by omega), List.drop_append_of_le_length (by omega)]
  simp
theorem ovr_appL (a b e : List Nat) (o : Nat) (h : a.length ≤ o) : ovr (a ++ b) e o = a ++ ovr b e (o - a.length) := by
  unfold ovr
  rw [List.take_append, List.take_of_length_le (by omega), List.drop_append, List.drop_of_length_le (by omega)]
  simp
  congr 3
  omega
theorem puts_appR {T : List ByteArray} {m : Nat} (hT : ∀ s ∈ T, s.size = m) : ∀ (H : List (Int × Int)) (a b : List Nat), (∀ x ∈ H, Hin 0 a.length m T.length x) → puts T 0 (a ++ b) H = puts T 0 a H ++ b
  | [], _, _, _ => rfl
  | x :: H, a, b, h => by
    obtain ⟨i, k, rfl, h1, h2, h3⟩ := h x (by simp)
    have hsz : (tl (txt T k)).length = m := by rw [tl_len, hT _ (by rw [txt_eq h3]; exact List.getElem_mem h3)]
    have hl : (ovr a (tl (txt T k)) (i - 0)).length = a.length := ovr_len _ _ _ (by omega)
    show puts T 0 (ovr (a ++ b) (tl (txt T k)) (i - 0)) H = puts T 0 (ovr a (tl (txt T k)) (i - 0)) H ++ b
    rw [ovr_appR _ _ _ _ (by omega)]
    exact puts_appR hT H _ b (fun y hy => by rw [hl]; exact h y (by simp [hy]))
theorem puts_appL {T : List ByteArray} {m : Nat} (hT : ∀ s ∈ T, s.size = m) : ∀ (H : List (Int × Int)) (a b : List Nat), (∀ x ∈ H, Hin a.length b.length m T.length x) → puts T 0 (a ++ b) H = a ++ puts T a.length b H
  | [], _, _, _ => rfl
  | x :: H, a, b, h => by
    obtain ⟨i, k, rfl, h1, h2, h3⟩ := h x (by simp)
    have hsz : (tl (txt T k)).length = m := by rw [tl_len, hT _ (by rw [txt_eq h3]; exact List.getElem_mem h3)]
    have hl : (ovr b (tl (txt T k)) (i - a.length)).length = b.length := ovr_len _ _ _ (by omega)
    show puts T 0 (ovr (a ++ b) (tl (txt T k)) (i - 0)) H = a ++ puts T a.length (ovr b (tl (txt T k)) (i - a.length)) H
    rw [Nat.sub_zero, ovr_appL _ _ _ _ h1]
    exact puts_appL hT H a _ (fun y hy => by rw [hl]; exact h y (by simp [hy]))
/-- Some bytes, rewritten. -/
def rwd (L : List (List Nat)) (m : Nat) (T : List ByteArray) (y : List Nat) : List Nat := puts T 0 y (hts L m y)
theorem rwd_len {L : List (List Nat)} {m : Nat} {T : List ByteArray} (hT : ∀ s ∈ T, s.size = m) (hl : T.length = L.length) (y : List Nat) : (rwd L m T y).length = y.length := puts_len hT _ _ (hts_hin L m y _ hl)
/-- A piece more, rewritten: what was put out, and the rest. -/
theorem rwd_app {L : List (List Nat)} {m : Nat} (hm : 0 < m) {T : List ByteArray} (hT : ∀ s ∈ T, s.size = m) (hl : T.length = L.length) (y p : List Nat) :
    rwd L m T (y ++ p) = (rwd L m T y).take (y.length - hld2 L m y) ++ puts T (y.length - hld2 L m y) ((rwd L m T y).drop (y.length - hld2 L m y) ++ p) (hit2 L m y p) := by
  have hle := hld2_lm L m y
  have hlen := rwd_len hT hl y
  have h1 : rwd L m T (y ++ p) = puts T 0 (rwd L m T y ++ p) (hit2 L m y p) := by
    unfold rwd
    rw [hts_app L m hm]
    have e : ∀ t A B, puts T 0 t (A ++ B) = puts T 0 (puts T 0 t A) B := fun t A B => by simp [puts]
    rw [e, puts_appR hT _ _ _ (hts_hin L m y _ hl)]
  have hta : ((rwd L m T y).take (y.length - hld2 L m y)).length = y.length - hld2 L m y := by rw [List.length_take, hlen]; omega
  rw [h1]
  conv => lhs; rw [← List.take_append_drop (y.length - hld2 L m y) (rwd L m T y), List.append_assoc]
  rw [puts_appL hT _ _ _ (fun x hx => ?_), hta]
  have := hit2_in L m hm y p T.length hl x hx
  rw [hta]
  have hd : ((rwd L m T y).drop (y.length - hld2 L m y) ++ p).length = hld2 L m y + p.length := by rw [List.length_append, List.length_drop, hlen]; omega
  rw [hd]; exact this
end Go.Proofs.Ytceaklefdahfkab

/- The sieve's rewriter: none, At, Held, Feed, Close. -/
namespace Go.Proofs.Ytceaklefdahfkab
open Go.RowKit
theorem sg69 (a b c d tv : Value) (f : Int) (K : List Nat) (dn : Bool) (h : K.length = 63) : (a :: b :: c :: d :: rX tv f K dn).toArray[69]? = some (.bool dn) := by
  simp [rX, h]
theorem noneW_any (gr gt s n h : Nat) (tv : Value) (f : Int) (K : List Nat) (w : World) (hw : Rwt gr gt s n h tv f K w) : Calls Try.prog 57 #[.pointer (some ⟨gr, 0, none⟩)] w fun e w' => e = .returned (.bool false) ∧ w' = w := by
  have c0 : w.cell? ⟨gr, 0, none⟩ = some (.pointer (some ⟨gt, 0, none⟩)) := (cell_of_row w gr 0 _ _ _ hw).trans (sg0 _ _ _ _ _)
  clear hw
  go_enter Try.func57, Try.ntmps57
  go_wp2
  go_ret
  exact ⟨rfl, rfl⟩
theorem noneW_done (gr n h : Nat) (w : World) (hw : Rwd gr n h w) : Calls Try.prog 57 #[.pointer (some ⟨gr, 0, none⟩)] w fun e w' => e = .returned (.bool false) ∧ w' = w := by
  have c0 : w.cell? ⟨gr, 0, none⟩ = some (.pointer none) := (cell_of_row w gr 0 _ _ _ hw).trans (sg0 _ _ _ _ _)
  have c9 : w.cell? ⟨gr, 69, none⟩ = some (.bool true) := (cell_of_row w gr 69 _ _ _ hw).trans (sg69 _ _ _ _ _ _ _ _ (by simp))
  clear hw
  go_enter Try.func57, Try.ntmps57
  go_wp2
  go_ret
  exact ⟨rfl, rfl⟩
theorem scAt_any (gr n : Nat) (w : World) (c : w.cell? ⟨gr, 2, none⟩ = some (.int .i64 (n : Int))) : Calls Try.prog 31 #[.pointer (some ⟨gr, 0, none⟩)] w fun e w' => e = .returned (.int .i64 (n : Int)) ∧ w' = w := by
  go_enter Try.func31, Try.ntmps31
  go_wp2
  go_ret
  exact ⟨rfl, rfl⟩
theorem scHeld_any (gr h : Nat) (w : World) (c : w.cell? ⟨gr, 3, none⟩ = some (.int .i64 (h : Int))) : Calls Try.prog 33 #[.pointer (some ⟨gr, 0, none⟩)] w fun e w' => e = .returned (.int .i64 (h : Int)) ∧ w' = w := by
  go_enter Try.func33, Try.ntmps33
  go_wp2
  go_ret
  exact ⟨rfl, rfl⟩
theorem rwAt_any (gr n : Nat) (w : World) (c : w.cell? ⟨gr, 2, none⟩ = some (.int .i64 (n : Int))) : Calls Try.prog 60 #[.pointer (some ⟨gr, 0, none⟩)] w fun e w' => e = .returned (.int .i64 (n : Int)) ∧ w' = w := by
  have C : Hid _ := scAt_any gr n w c
  go_enter Try.func60, Try.ntmps60
  go_wp2_with fail
  refine Calls.mono C.out ?_
  rintro e W ⟨rfl, rfl⟩
  go_wp2
  go_ret
  exact ⟨rfl, rfl⟩
theorem rwHeld_any (gr h : Nat) (w : World) (c : w.cell? ⟨gr, 3, none⟩ = some (.int .i64 (h : Int))) : Calls Try.prog 58 #[.pointer (some ⟨gr, 0, none⟩)] w fun e w' => e = .returned (.int .i64 (h : Int)) ∧ w' = w := by
  have C : Hid _ := scHeld_any gr h w c
  go_enter Try.func58, Try.ntmps58
  go_wp2_with fail
  refine Calls.mono C.out ?_
  rintro e W ⟨rfl, rfl⟩
  go_wp2
  go_ret
  exact ⟨rfl, rfl⟩
/-- The kept bytes, as they lie. -/
theorem kept_cell {gr gt s n h : Nat} {tv : Value} {f : Int} {K : List Nat} {w : World} (hw : Rwt gr gt s n h tv f K w) (j : Nat) (hj : j < K.length) : w.cell? ⟨gr, 6 + j, none⟩ = some (.int .u8 ((K.getD j 0 : Nat) : Int)) := by
  rw [cell_of_row w _ _ _ _ _ hw, sgk _ _ _ _ _ _ _ _ _ hj]
theorem cp_kept (W : World) (g gr gt s n h : Nat) (tv : Value) (f : Int) (K : List Nat) (hK : K.length = 63) (hh : h ≤ 63) (hw : Rwt gr gt s n h tv f K W) (hr : W.heap[g]? = some (.cells (ik .u8 (List.replicate h 0)) 5 (0, 0))) :
    (cpB 3 #[.slice (some ⟨g, 0, none⟩) h h, .slice (some ⟨gr, 6, none⟩) 63 63]).run Try.prog W = .ok (goInt h) (W.setRow g (ik .u8 (K.take h))) := by
  have hkl : (K.take h).length = h := by rw [List.length_take]; omega
  have hlen : ((K.take h).map fun (x : Nat) => Value.int .u8 (x : Int)).length = h := by rw [List.length_map, hkl]
  have hc := run_copy_row (P := Try.prog) W 23 23 3 5 g 0 h h ⟨gr, 6, none⟩ 63 63 _ 5 ((K.take h).map fun (x : Nat) => Value.int .u8 (x : Int)) Try.underlying23 size5 hr (by rw [hlen]; show h = Nat.min 63 h; have : Nat.min 63 h = min 63 h := rfl; omega) (fun j v hj => by
    have hj2 : j < h := by have := (List.getElem?_eq_some_iff.1 hj).1; rwa [hlen] at this
    rw [Go.WideShapes.add_plain, kept_cell hw j (by omega)]
    simp only [List.getElem?_map] at hj
    rw [List.getElem?_eq_getElem (by omega)] at hj
    simp only [Option.map_some, Option.some.injEq] at hj
    rw [← hj]
    simp [List.getD, show j < K.length by omega]) (by rw [hlen, ik_size]; simp) (fun v hv => by obtain ⟨x, _, rfl⟩ := List.mem_map.1 hv; rfl)
  rw [hlen] at hc
  have h2 := ik_ovr (List.replicate h 0) (K.take h) 0
  rw [hkl] at h2
  rw [h2] at hc
  have h3 : ovr (List.replicate h 0) (K.take h) 0 = K.take h := by simp [ovr, hkl]
  rw [h3] at hc
  exact hc
attribute [local go_sem ↓] toMkB toCpB
set_option maxRecDepth 100000 in
set_option maxHeartbeats 1600000 in
theorem rclose_any (gr gt s n h : Nat) (tv : Value) (f : Int) (K : List Nat) (hK : K.length = 63) (hh : h ≤ 63) (w : World) (hw : Rwt gr gt s n h tv f K w) :
    Calls Try.prog 23 #[.pointer (some ⟨gr, 0, none⟩)] w fun e w' => e = .returned (.tuple #[.slice (some ⟨w.heap.size, 0, none⟩) h h, .int .i64 0, .int .i64 0]) ∧ w'.heap[w.heap.size]? = some (.cells (ik .u8 (K.take h)) 5 (0, 0)) ∧ Rwd gr n 0 w' ∧ Bur gr w w' := by
  have gz : gr < w.heap.size := (Array.getElem?_eq_some_iff.1 hw).1
  have C0 : Hid _ := noneW_any gr gt s n h tv f K w hw
  have C1 : Hid _ := rwHeld_any gr h w ((cell_of_row w gr 3 _ _ _ hw).trans (sg3 _ _ _ _ _))
  have c9 : w.cell? ⟨gr, 69, none⟩ = some (.bool false) := (cell_of_row w gr 69 _ _ _ hw).trans (sg69 _ _ _ _ _ _ _ _ hK)
  obtain ⟨W1, r1, R1, b1, z1⟩ := run_mkB w h (by omega)
  have hw1 : Rwt gr gt s n h tv f K W1 := (b1.block gr gz).trans hw
  have rc := cp_kept W1 w.heap.size gr gt s n h tv f K hK hh hw1 R1
  obtain ⟨W2, hW2⟩ : ∃ W2, W1.setRow w.heap.size (ik .u8 (K.take h)) = W2 := ⟨_, rfl⟩
  rw [hW2] at rc
  have hw2 : Rwt gr gt s n h tv f K W2 := by rw [← hW2]; exact (setRow_other _ _ _ _ (by omega)).trans hw1
  have R2 : W2.heap[w.heap.size]? = some (.cells (ik .u8 (K.take h)) 5 (0, 0)) := by rw [← hW2]; exact setRow_heap _ _ _ _ _ _ R1
  have b2 : Below w.heap.size w W2 := by rw [← hW2]; exact below_setRow b1 (Nat.le_refl _) _
  have C2 : Hid _ := rwAt_any gr n W2 ((cell_of_row W2 gr 2 _ _ _ hw2).trans (sg2 _ _ _ _ _))
  have C3 : Hid (Calls Try.prog 59 #[.pointer (some ⟨gr, 0, none⟩), .int .i64 (n : Int), .int .i64 0] W2 fun e w' => e = .returned (.tuple #[]) ∧ Hid (w'.heap[w.heap.size]? = some (.cells (ik .u8 (K.take h)) 5 (0, 0)) ∧ Rwd gr n 0 w' ∧ Bur gr w w')) := by
    refine (fin_any gr n 0 _ W2 hw2 (rX_len _ _ _ _ _ _ _ _ hK)).mono ?_
    rintro e w' ⟨he, k1, k2, k3, k4, k5, k6⟩
    refine ⟨he, (k6 _ (by omega)).trans R2, k1, ⟨k2.trans b2.os, k3.trans b2.tape, k4.trans b2.output, by rw [k5]; exact b2.size, fun j hj hn => (k6 j hn).trans (b2.block j hj)⟩⟩
  clear hw hw1 hw2 R1 R2 b1 b2 z1 hW2
  go_enter Try.func23, Try.ntmps23
  go_wp2_with fail
  refine Calls.mono C0.out ?_
  rintro e W ⟨rfl, rfl⟩
  clear C0
  go_wp2_with fail
  refine Calls.mono C1.out ?_
  rintro e W ⟨rfl, rfl⟩
  clear C1
  go_wp2_with fail
  refine Calls.mono C2.out ?_
  rintro e W' ⟨rfl, rfl⟩
  clear C2
  go_wp2_with fail
  refine Calls.mono C3.out ?_
  rintro e W3 ⟨rfl, HE⟩
  clear C3
  go_wp2
  go_ret3
  exact ⟨rfl, HE.out⟩
theorem rclose_done (gr n h : Nat) (w : World) (hw : Rwd gr n h w) : Calls Try.prog 23 #[.pointer (some ⟨gr, 0, none⟩)] w fun e w' => e = .returned (.tuple #[.slice none 0 0, .int .i64 6, .int .i64 0]) ∧ w' = w := by
  have C0 : Hid _ := noneW_done gr n h w hw
  have c9 : w.cell? ⟨gr, 69, none⟩ = some (.bool true) := (cell_of_row w gr 69 _ _ _ hw).trans (sg69 _ _ _ _ _ _ _ _ (by simp))
  clear hw
  go_enter Try.func23, Try.ntmps23
  go_wp2_with fail
  refine Calls.mono C0.out ?_
  rintro e W ⟨rfl, rfl⟩
  go_wp2
  go_ret3
  exact ⟨rfl, rfl⟩
theorem rfeed_done (gr n h : Nat) (pv : Value) (w : World) (hw : Rwd gr n h w) : Calls Try.prog 22 #[.pointer (some ⟨gr, 0, none⟩), pv] w fun e w' => e = .returned (.tuple #[.slice none 0 0, .int .i64 6, .int .i64 0]) ∧ w' = w := by
  have C0 : Hid _ := noneW_done gr n h w hw
  have c9 : w.cell? ⟨gr, 69, none⟩ = some (.bool true) := (cell_of_row w gr 69 _ _ _ hw).trans (sg69 _ _ _ _ _ _ _ _ (by simp))
  clear hw
  go_enter Try.func22, Try.ntmps22
  go_wp2_with fail
  refine Calls.mono C0.out ?_
  rintro e W ⟨rfl, rfl⟩
  go_wp2
  go_ret3
  exact ⟨rfl, rfl⟩
theorem cut_lw {v : Value} {l : List Nat} {w : World} (h : Si .u8 v l w) (k : Nat) (hk : k ≤ l.length) : ∃ o n c, (∀ W, (slB v (some (.int .i64 (k : Int))) none none).run Try.prog W = .ok (.slice o n c) W) ∧ Si .u8 (.slice o n c) (l.drop k) w := by
  rcases h with ⟨rfl, rfl⟩ | ⟨b, off, c, rfl, h2, h3, h4, h5⟩
  · have hk0 : k = 0 := by simpa using hk
    subst hk0
    refine ⟨none, 0, 0, fun W => ?_, .inl ⟨rfl, by simp⟩⟩
    have := run_slice_l (P := Try.prog) W 23 none 0 0 u27 .i64 0 (by omega) (by omega)
    unfold slB
    exact this.trans (by simp [elem27, run_size1 W size5, Result.andThen, sliced])
  · have hl : (l.drop k).length = l.length - k := by rw [List.length_drop]
    have hrun : ∀ W, (slB (.slice (some ⟨b, off, none⟩) l.length c) (some (.int .i64 (k : Int))) none none).run Try.prog W = .ok (.slice (some ⟨b, off + (if k < c then k else 0), none⟩) (l.length - k) (c - k)) W := fun W => by
      have := run_slice_l (P := Try.prog) W 23 (some ⟨b, off, none⟩) l.length c u27 .i64 (k : Int) (by omega) (by omega)
      unfold slB
      rw [this, elem27, run_size1 W size5]
      simp only [Result.andThen, sliced, Int.toNat_natCast, Option.map_some, Nat.mul_one]
      by_cases hq : k < c
      · rw [if_neg (by omega), Go.WideShapes.add_plain, if_pos hq]
      · rw [if_pos (by omega), if_neg hq, Nat.add_zero]
    refine ⟨_, _, _, hrun, .inr ⟨b, off + (if k < c then k else 0), c - k, by rw [hl], by omega, by omega, h4, fun j hj => ?_⟩⟩
    rw [hl] at hj
    rw [if_pos (by omega), show off + k + j = off + (k + j) by omega, h5 (k + j) (by omega)]
    simp [List.getD, List.getElem?_drop]
theorem cut_hm {v : Value} {l : List Nat} {w : World} (h : Si .u8 v l w) (k : Nat) (hk : k ≤ l.length) : ∃ o, (∀ W, (slB v none (some (.int .i64 (k : Int))) (some (.int .i64 (k : Int)))).run Try.prog W = .ok (.slice o k k) W) ∧ Si .u8 (.slice o k k) (l.take k) w ∧ (∀ j, (Value.slice o k k).ownBlock = some j → v.ownBlock = some j) ∧ ∀ b off n c, v = .slice (some ⟨b, off, none⟩) n c → o = some ⟨b, off, none⟩ := by
  rcases h with ⟨rfl, rfl⟩ | ⟨b, off, c, rfl, h2, h3, h4, h5⟩
  · have hk0 : k = 0 := by simpa using hk
    subst hk0
    refine ⟨none, fun W => ?_, .inl ⟨rfl, by simp⟩, (fun j hj => by cases hj), (fun b off n c h => by cases h)⟩
    have := run_slice_hm (P := Try.prog) W 23 none 0 0 u27 .i64 .i64 0 0 (by omega) (by omega) (by omega)
    unfold slB
    exact this.trans (by simp [elem27, run_size1 W size5, Result.andThen, sliced])
  · have hl : (l.take k).length = k := by rw [List.length_take]; omega
    have hrun : ∀ W, (slB (.slice (some ⟨b, off, none⟩) l.length c) none (some (.int .i64 (k : Int))) (some (.int .i64 (k : Int)))).run Try.prog W = .ok (.slice (some ⟨b, off, none⟩) k k) W := fun W => by
      have := run_slice_hm (P := Try.prog) W 23 (some ⟨b, off, none⟩) l.length c u27 .i64 .i64 (k : Int) (k : Int) (by omega) (by omega) (by omega)
      unfold slB
      rw [this, elem27, run_size1 W size5]
      simp only [Result.andThen, sliced, Int.toNat_natCast, Nat.sub_zero, Nat.zero_mul]
      split
      · rfl
      · rw [Option.map_some, Go.WideShapes.add_plain]; rfl
    refine ⟨_, hrun, .inr ⟨b, off, k, by rw [hl], by omega, by omega, h4, fun j hj => ?_⟩, fun j hj => hj, fun b off n c h => by cases h; rfl⟩
    rw [hl] at hj
    rw [h5 j (by omega)]
    simp [List.getD, hj]
set_option maxRecDepth 100000 in
/-- What is held back is kept. -/
theorem cp_keep (W : World) (gr gt s n h : Nat) (tv : Value) (f : Int) (K e : List Nat) (hK : K.length = 63) (he : e.length ≤ 63) (hw : Rwt gr gt s n h tv f K W) (o : Option Addr) (l c : Nat) (hv : Si .u8 (.slice o l c) e W) :
    ∃ W', (cpB 3 #[.slice (some ⟨gr, 6, none⟩) 63 63, .slice o l c]).run Try.prog W = .ok (goInt e.length) W' ∧ Rwt gr gt s n h tv f (e ++ K.drop e.length) W' ∧ W'.os = W.os ∧ W'.tape = W.tape ∧ W'.output = W.output ∧ W'.heap.size = W.heap.size ∧ ∀ j, j ≠ gr → W'.heap[j]? = W.heap[j]? := by
  have hsame : e = [] → Rwt gr gt s n h tv f (e ++ K.drop e.length) W := fun h0 => by rw [h0]; simpa using hw
  rcases hv with ⟨h1, h2⟩ | ⟨b, off, cap, h1, hc1, hc2, hbl, hcell⟩
  · cases h1
    refine ⟨W, ?_, hsame h2, rfl, rfl, rfl, rfl, fun _ _ => rfl⟩
    rw [h2]
    exact run_copy_nil (P := Try.prog) W 23 23 3 5 ⟨gr, 6, none⟩ _ _ Try.underlying23 (by kernel_rfl)
  · cases h1
    by_cases h0 : e.length = 0
    · have e0 : e = [] := List.length_eq_zero_iff.1 h0
      refine ⟨W, ?_, hsame e0, rfl, rfl, rfl, rfl, fun _ _ => rfl⟩
      rw [h0]
      exact run_copy_none (P := Try.prog) W 23 23 3 5 _ _ _ _ 0 _ Try.underlying23 size5 (by simp)
    have hlen : (e.map fun (x : Nat) => Value.int .u8 (x : Int)).length = e.length := by rw [List.length_map]
    have hsz := rX_len (.pointer (some ⟨gt, 0, none⟩)) (.int .i32 (s : Int)) (.int .i64 (n : Int)) (.int .i64 (h : Int)) tv f K false hK
    have hcp := run_copy_row (P := Try.prog) W 23 23 3 5 gr 6 63 63 ⟨b, off, none⟩ e.length c _ 94 (e.map fun (x : Nat) => Value.int .u8 (x : Int)) Try.underlying23 size5 hw (by rw [hlen]; show e.length = Nat.min e.length 63; have : Nat.min e.length 63 = min e.length 63 := rfl; omega) (fun j v hj => by
      have hj2 : j < e.length := by rw [← hlen]; exact (List.getElem?_eq_some_iff.1 hj).1
      have ev : v = Value.int .u8 ((e.getD j 0 : Nat) : Int) := by
        simp only [List.getElem?_map] at hj
        rw [List.getElem?_eq_getElem hj2] at hj
        simp only [Option.map_some, Option.some.injEq] at hj
        rw [← hj]
        simp [List.getD, hj2]
      rw [ev, Go.WideShapes.add_plain]
      exact hcell j hj2) (by rw [hlen, hsz]; omega) (fun v hv => by obtain ⟨x, _, rfl⟩ := List.mem_map.1 hv; rfl)
    rw [hlen] at hcp
    refine ⟨_, hcp, ?_, rfl, rfl, rfl, by simp, fun j hj => setRow_other _ _ _ _ hj⟩
    have hr := setRow_heap W gr _ (((.pointer (some ⟨gt, 0, none⟩) :: .int .i32 (s : Int) :: .int .i64 (n : Int) :: .int .i64 (h : Int) :: rX tv f K false).toArray.toList.take 6 ++ (e.map fun (x : Nat) => Value.int .u8 (x : Int)) ++ (.pointer (some ⟨gt, 0, none⟩) :: .int .i32 (s : Int) :: .int .i64 (n : Int) :: .int .i64 (h : Int) :: rX tv f K false).toArray.toList.drop (6 + e.length)).toArray) 94 _ hw
    unfold Rwt Scg
    rw [hr]
    congr 2
    have hd : ((K.map fun (x : Nat) => Value.int .u8 (x : Int)) ++ [Value.bool false]).drop e.length = ((K.drop e.length).map fun (x : Nat) => Value.int .u8 (x : Int)) ++ [Value.bool false] := by
      rw [List.drop_append_of_le_length (by rw [List.length_map]; omega), List.map_drop]
    simp only [rX, List.take_succ_cons, List.take_zero, List.map_append, List.append_assoc]
    rw [show 6 + e.length = e.length + 1 + 1 + 1 + 1 + 1 + 1 by omega]
    simp only [List.drop_succ_cons, hd]
    rfl
/-- Bytes that may be written over. -/
def Wb (B : Nat) (o : Option Addr) (n : Nat) (w : World) : Prop := n = 0 ∨ ∃ g cur ty, o = some ⟨g, 0, none⟩ ∧ B ≤ g ∧ w.heap[g]? = some (.cells cur ty (0, 0)) ∧ n ≤ cur.size
theorem own_wb {W : World} {B N k : Nat} {o o' : Option Addr} {c : Nat} {xs : List Value} (h : W.ownsRow B 5 1 (.slice o N c) N xs) (ho : ∀ b off n c', Value.slice o N c = .slice (some ⟨b, off, none⟩) n c' → o' = some ⟨b, off, none⟩) (hk : k ≤ N) : Wb B o' k W := by
  rcases Nat.eq_zero_or_pos k with h0 | h0
  · exact .inl h0
  · obtain ⟨h1, ⟨h2, h3⟩ | ⟨g, cap', cur, hv, h3, h4, h5, h6, h7, h8⟩⟩ := h
    · cases h2; omega
    · exact .inr ⟨g, cur, 5, ho _ _ _ _ hv, h3, h4, by omega⟩
/-- What Feed answers. -/
def RfP (gr gt s' n' h' : Nat) (tv : Value) (f : Int) (m : Nat) (P K : List Nat) (N n h : Nat) (H : List (Int × Int)) (B : Nat) (e : Ending) (w' : World) : Prop :=
  ((ovP f m H).2 = true ∧ e = .returned (.tuple #[.slice none 0 0, .int .i64 52, .int .i64 (ovP f m H).1]) ∧ Rwd gr n h w') ∨
  ((ovP f m H).2 = false ∧ ∃ o, e = .returned (.tuple #[.slice o (N - h') (N - h'), .int .i64 0, .int .i64 0]) ∧ Si .u8 (.slice o (N - h') (N - h')) (P.take (N - h')) w' ∧ Wb B o (N - h') w' ∧ Rwt gr gt s' n' h' tv (frN f m H) (P.drop (N - h') ++ K.drop h') w')
attribute [local go_sem ↓] toSlB
set_option maxRecDepth 100000 in
set_option maxHeartbeats 1600000 in
theorem rfeed_any (gr gt s n h : Nat) (tv : Value) (f : Int) (K : List Nat) (hK : K.length = 63) (T : List ByteArray) (m : Nat) (H : List (Int × Int)) (hm0 : 0 < H.length → 0 < m) (hT : ∀ s ∈ T, s.size = m) (t : Tbl) (hwk : Wk t) (hwd : t.width = m) (G : Nat → Prop) (hG : Gd t G) (hs : G s) (hn : n ≤ 1125899906842624) (hh : h ≤ 63) (hhn : h ≤ n) (p : List Nat) (hpb : Byt p) (hpl : p.length ≤ 1073741824) (pv : Value) (w : World) (hR : Rwt gr gt s n h tv f K w) (ht : TabK gr gt t w) (hp : Si .u8 pv p w) (hpg : pv.ownBlock ≠ some gr) (hTv : St tv T w) (hTg : tv.ownBlock ≠ some gr)
    (hH : fnd t s n p = H) (hHr : Rg H) (hin : ∀ x ∈ H, Hin (n - h) (h + p.length) m T.length x) (hN : t.depths.getD (rn t s p) 0 ≤ h + p.length) (h63 : t.depths.getD (rn t s p) 0 ≤ 63) :
    Calls Try.prog 22 #[.pointer (some ⟨gr, 0, none⟩), pv] w fun e w' => Bur gr w w' ∧ RfP gr gt (rn t s p) (n + p.length) (t.depths.getD (rn t s p) 0) tv f m (puts T (n - h) (K.take h ++ p) H) K (h + p.length) n h H w.heap.size e w' := by
  have C0 : Hid _ := noneW_any gr gt s n h tv f K w hR
  have C1 : Hid _ := take_any gr gt s n h tv f K hK T m H hm0 hT t hwk hwd G hG hs hn hh hhn p hpb hpl pv w hR ht hp hpg hTv hTg hH hHr hin
  have c9 : w.cell? ⟨gr, 69, none⟩ = some (.bool false) := (cell_of_row w gr 69 _ _ _ hR).trans (sg69 _ _ _ _ _ _ _ _ hK)
  have HPL : Hid ((puts T (n - h) (K.take h ++ p) H).length = h + p.length) := by
    have hl : (K.take h ++ p).length = h + p.length := by rw [List.length_append, List.length_take]; omega
    show _ = _
    rw [puts_len (m := m) hT H _ (by rw [hl]; exact hin), hl]
  have gz : gr < w.heap.size := (Array.getElem?_eq_some_iff.1 hR).1
  obtain ⟨s', hs'⟩ : ∃ s', s' = rn t s p := ⟨_, rfl⟩
  obtain ⟨h', hh'⟩ : ∃ h', h' = t.depths.getD s' 0 := ⟨_, rfl⟩
  obtain ⟨P, hP⟩ : ∃ P, P = puts T (n - h) (K.take h ++ p) H := ⟨_, rfl⟩
  rw [← hs', ← hh'] at C1 hN h63 ⊢
  rw [← hP] at C1 HPL ⊢
  obtain ⟨N, hNN⟩ : ∃ N, N = h + p.length := ⟨_, rfl⟩
  rw [← hNN] at C1 HPL hN ⊢
  have hNb : N ≤ 1073741887 := by omega
  clear hR ht hp hpg hTv hTg hH hHr hin hT hwk hwd hG hs hpb hs' hh' hP hNN
  go_enter Try.func22, Try.ntmps22
  go_wp2_with fail
  refine Calls.mono C0.out ?_
  rintro e W ⟨rfl, rfl⟩
  clear C0
  go_wp2_with fail
  refine Calls.mono C1.out ?_
  rintro e W1 ⟨hb1, hc1⟩
  clear C1
  rcases hc1 with ⟨x1, rfl, x2⟩ | ⟨x1, v, hv, rfl, x2, x3, x4⟩
  · have HE : Hid (∀ e, e = .returned (.tuple #[.slice none 0 0, .int .i64 52, .int .i64 (ovP f m H).1]) → Bur gr W W1 ∧ RfP gr gt s' (n + p.length) h' tv f m P K N n h H W.heap.size e W1) := fun e he => ⟨hb1, .inl ⟨x1, he, x2⟩⟩
    clear hb1 x1 x2
    go_wp2
    go_ret3
    exact HE.out _ rfl
  · obtain ⟨ov1, cv1, hv1⟩ := own_size x2
    subst hv1
    have CH : Hid _ := rwHeld_any gr h' W1 ((cell_of_row W1 gr 3 _ _ _ x4).trans (sg3 _ _ _ _ _))
    have sP : Si .u8 (.slice ov1 N cv1) P W1 := own_si x2 HPL.out.symm
    obtain ⟨nn, hnn⟩ : ∃ nn, nn = N - h' := ⟨_, rfl⟩
    have eN : IntKind.i64.wrap ((N : Int) - (h' : Int)) = (nn : Int) := by rw [wi _ (by unfold I64; omega)]; omega
    obtain ⟨o2, l2, c2, u1, u2⟩ := cut_lw sP nn (by rw [HPL.out]; omega)
    obtain ⟨o3, u3, u4, u5, u6⟩ := cut_hm sP nn (by rw [HPL.out]; omega)
    have hdl : (P.drop nn).length = h' := by rw [List.length_drop, HPL.out]; omega
    have x4d : Rwt gr gt s' (n + p.length) h' tv (frN f m H) K W1.drew := x4
    obtain ⟨W2, rc, k1, k2, k3, k4, k5, k6⟩ := cp_keep W1.drew gr gt s' (n + p.length) h' tv (frN f m H) K (P.drop nn) hK (by omega) x4d o2 l2 c2 u2
    rw [hdl] at rc k1
    have HE : Hid (∀ e, e = .returned (.tuple #[.slice o3 nn nn, .int .i64 0, .int .i64 0]) → Bur gr W W2 ∧ RfP gr gt s' (n + p.length) h' tv f m P K N n h H W.heap.size e W2) := fun e he => by
      have k5' : W2.heap.size = W1.heap.size := k5
      have k6' : ∀ j, j ≠ gr → W2.heap[j]? = W1.heap[j]? := k6
      refine ⟨⟨k2.trans hb1.os, k3.trans hb1.tape, k4.trans hb1.output, by have := hb1.size; omega, fun j hj hn => (k6' j hn).trans (hb1.block j hj hn)⟩, .inr ⟨x1, o3, by rw [← hnn]; exact he, ?_, ?_, ?_⟩⟩
      · rw [← hnn]
        exact u4.keep (by omega) fun k hk _ => k6' k (by have := (x2.lt k (u5 k hk)).1; omega)
      · rw [← hnn]
        rcases own_wb x2 u6 (show nn ≤ N by omega) with z | ⟨g0, cur0, ty0, z1, z2, z3, z4⟩
        · exact .inl z
        · exact .inr ⟨g0, cur0, ty0, z1, z2, (k6' g0 (by omega)).trans z3, z4⟩
      · rw [← hnn]
        exact k1
    clear x1 x2 x3 x4 x4d sP u2 u4 u5 u6 k1 k2 k3 k4 k5 k6 hdl hnn HPL hb1
    go_wp2_with fail
    refine Calls.mono CH.out ?_
    rintro e W1' ⟨rfl, rfl⟩
    clear CH
    go_wp2_with fail
    go_big_region
    go_wp2
    go_ret3
    exact HE.out _ rfl
end Go.Proofs.Ytceaklefdahfkab

/- SieveCuts: overlaps by pieces, and a piece more for the rewriter. -/
namespace Go.Proofs.Ytceaklefdahfkab
open Go.RowKit
def dcA : Option Int → Int × Bool
  | some x => (x, true)
  | none => (0, false)
/-- What overlap answers, place by place. -/
theorem ovP_dc (f : Int) (m : Nat) (H : List (Int × Int)) : ovP f m H = dcA (dcP (m : Int) (f - (m : Int)) H) := by
  cases H with
  | nil => simp [dcP, ovP, ov, ovR, dcA]
  | cons x r =>
    have h0 : ((x :: r).getD 0 (0, 0)) = x := rfl
    have e : ov (x :: r) (m : Int) = ovR (x :: r) (m : Int) r.length 1 := by unfold ov; simp
    have hd := dcP_ov m r (x :: r) 1 x.1 (by omega) rfl rfl
    rw [dcP]
    by_cases hc : x.1 < f
    · have hv : ovP f m (x :: r) = (x.1, true) := by unfold ovP; rw [h0, if_pos ⟨by simp, hc⟩]
      rw [hv, if_pos (by omega)]
      rfl
    · by_cases hq : 0 < ovR (x :: r) (m : Int) r.length 1
      · have hv : ovP f m (x :: r) = (((x :: r).getD (ovR (x :: r) (m : Int) r.length 1).toNat (0, 0)).1, true) := by unfold ovP; rw [h0, if_neg (fun h => hc h.2), e, if_pos hq]
        rw [hv, if_neg (by omega), hd, if_pos hq]
        rfl
      · have hv : ovP f m (x :: r) = (0, false) := by unfold ovP; rw [h0, if_neg (fun h => hc h.2), e, if_neg hq]
        rw [hv, if_neg (by omega), hd, if_neg hq]
        rfl
theorem dcP_app (m : Nat) : ∀ (A B : List (Int × Int)) (f : Int), dcP (m : Int) (f - (m : Int)) (A ++ B) = (dcP (m : Int) (f - (m : Int)) A).or (dcP (m : Int) (frN f m A - (m : Int)) B)
  | [], B, f => by simp [dcP, frN]
  | x :: A, B, f => by
    have hf : frN f m (x :: A) = frN (x.1 + (m : Int)) m A := rfl
    have hx : x.1 + (m : Int) - (m : Int) = x.1 := by omega
    have := dcP_app m A B (x.1 + (m : Int))
    rw [hx] at this
    rw [List.cons_append, dcP, dcP, hf]
    by_cases hc : x.1 - (f - (m : Int)) < (m : Int)
    · rw [if_pos hc, if_pos hc]; rfl
    · rw [if_neg hc, if_neg hc, this]
theorem ovP_app (f : Int) (m : Nat) (A B : List (Int × Int)) : ovP f m (A ++ B) = if (ovP f m A).2 = true then ovP f m A else ovP (frN f m A) m B := by
  rw [ovP_dc, ovP_dc, ovP_dc, dcP_app]
  cases dcP (m : Int) (f - (m : Int)) A with
  | none => simp [dcA]
  | some x => simp [dcA]
theorem frN_app (f : Int) (m : Nat) (A B : List (Int × Int)) : frN f m (A ++ B) = frN (frN f m A) m B := by simp [frN]
/-- The rewriter that has taken y. -/
def RwI (l : List ByteArray) (m : Nat) (ns : List Nat) (T : List ByteArray) (gr gt : Nat) (tv : Value) (y : List Nat) (w : World) : Prop :=
  ∃ s K, K.length = 63 ∧ Rwt gr gt s y.length (hld2 (l.map tl) m y) tv (frN 0 m (hts (l.map tl) m y)) K w ∧ At ((wdS l ns).map tl) m s y ∧ K.take (hld2 (l.map tl) m y) = (rwd (l.map tl) m T y).drop (y.length - hld2 (l.map tl) m y)
/-- What Feed answers, by the bytes taken. -/
def RfY (l : List ByteArray) (m : Nat) (ns : List Nat) (T : List ByteArray) (gr gt : Nat) (tv : Value) (y p : List Nat) (B : Nat) (e : Ending) (w' : World) : Prop :=
  ((ovP 0 m (hts (l.map tl) m (y ++ p))).2 = true ∧ e = .returned (.tuple #[.slice none 0 0, .int .i64 52, .int .i64 (ovP 0 m (hts (l.map tl) m (y ++ p))).1]) ∧ Rwd gr y.length (hld2 (l.map tl) m y) w') ∨
  ((ovP 0 m (hts (l.map tl) m (y ++ p))).2 = false ∧ ∃ o k X, e = .returned (.tuple #[.slice o k k, .int .i64 0, .int .i64 0]) ∧ Si .u8 (.slice o k k) X w' ∧ Wb B o k w' ∧
    (rwd (l.map tl) m T y).take (y.length - hld2 (l.map tl) m y) ++ X = (rwd (l.map tl) m T (y ++ p)).take ((y ++ p).length - hld2 (l.map tl) m (y ++ p)) ∧ RwI l m ns T gr gt tv (y ++ p) w')
theorem hin_rg {st N m nT : Nat} (h1 : st ≤ 1125899906842624) (h2 : N ≤ 2147483648) (h3 : nT ≤ 1073741824) {H : List (Int × Int)} (h : ∀ x ∈ H, Hin st N m nT x) : Rg H := fun j => by
  rcases Nat.lt_or_ge j H.length with hj | hj
  · have e : H.getD j (0, 0) = H[j] := by simp [List.getD, hj]
    obtain ⟨i, k, a1, a2, a3, a4⟩ := h _ (List.getElem_mem hj)
    rw [e, a1]
    unfold I64
    simp only
    omega
  · have e : H.getD j (0, 0) = (0, 0) := by simp [List.getD, hj]
    rw [e]
    unfold I64
    simp
theorem tk_in (A P : List Nat) (a k : Nat) (hA : A.length = a) (h : a ≤ k) : (A ++ P).take k = A ++ P.take (k - a) ∧ (A ++ P).drop k = P.drop (k - a) := by
  refine ⟨?_, ?_⟩
  · rw [List.take_append, List.take_of_length_le (by omega), hA]
  · rw [List.drop_append, List.drop_of_length_le (by omega), List.nil_append, hA]
theorem rfeed_y (l : List ByteArray) (m : Nat) (hp : Pt l m) (ns : List Nat) (hn : NewOk l ns) (T : List ByteArray) (hT : ∀ s ∈ T, s.size = m) (hTl : T.length = l.length) (gr gt : Nat) (tv : Value) (y p : List Nat) (hy : y.length ≤ 1125899906842624) (hpb : Byt p) (hpl : p.length ≤ 1073741824) (hov : (ovP 0 m (hts (l.map tl) m y)).2 = false) (pv : Value) (w : World)
    (hR : RwI l m ns T gr gt tv y w) (ht : TabK gr gt (ftT ((wdS l ns).map tl) ns m) w) (hpv : Si .u8 pv p w) (hpg : pv.ownBlock ≠ some gr) (hTv : St tv T w) (hTg : tv.ownBlock ≠ some gr) :
    Calls Try.prog 22 #[.pointer (some ⟨gr, 0, none⟩), pv] w fun e w' => Bur gr w w' ∧ RfY l m ns T gr gt tv y p w.heap.size e w' := by
  obtain ⟨s, K, hK, hR, hat, hKt⟩ := hR
  have hw := hp.wd hn
  have hln := hp.ln
  obtain ⟨n1, n2⟩ := hp.nums hn
  have hl := wdS_len hn.1
  have hll : ((wdS l ns).map tl).length = l.length := by rw [List.length_map]; exact hl
  have hb : ∀ u ∈ (wdS l ns).map tl, Byt u := fun u hu => by obtain ⟨s, _, rfl⟩ := List.mem_map.1 hu; exact tl_byt s
  have hv : ns.length = ((wdS l ns).map tl).length := by rw [hn.1.len, hll]
  have hf := hw.fnd ns (by omega) hb hv hp.m1 p y s hpb hat.1 hat.2
  rw [spc_last hw (l.map tl) n1 n2 y p] at hf
  have hA := hw.rnA ns (by omega) hb hv hp.m1 p y s hpb hat
  have hD := hw.dep ns (by omega) hb hv hp.m1 _ _ hA
  rw [hw.hld (l.map tl) n1 (y ++ p)] at hD
  have hD2 : (ftT ((wdS l ns).map tl) ns m).depths.getD (rn (ftT ((wdS l ns).map tl) ns m) s p) 0 = hld2 (l.map tl) m (y ++ p) := hD
  have hLl : T.length = (l.map tl).length := by rw [List.length_map, hTl]
  have hle := hld2_lm (l.map tl) m y
  have hle2 := hld2_lm (l.map tl) m (y ++ p)
  have happ := hld2_app (l.map tl) m y p
  have hm1 := hp.m1
  have hm0 := hp.m0
  have hin := hit2_in (l.map tl) m hm0 y p T.length hLl
  have hrg : Rg (hit2 (l.map tl) m y p) := hin_rg (by omega) (by omega) (by omega) hin
  have hrl := rwd_len hT hLl y
  have hpl2 := rwd_app (by omega) hT hLl y p
  have hwd : (ftT ((wdS l ns).map tl) ns m).width = m := by
    show (lbS _ _).width = _
    rw [(lbS_same _ _).2.2.1]
    rfl
  have := rfeed_any gr gt s y.length (hld2 (l.map tl) m y) tv _ K hK T m (hit2 (l.map tl) m y p) (fun _ => by omega) hT _ (hw.wk ns (by omega) hb hv hp.m1) hwd _ (hw.gd ns (by omega) hb hv hp.m1) hat.1 hy (by omega) (by omega) p hpb hpl pv w hR ht hpv hpg hTv hTg hf hrg hin (by rw [hD2]; omega) (by rw [hD2]; omega)
  refine this.mono fun e w' ⟨q1, q2⟩ => ⟨q1, ?_⟩
  have hoA : ovP 0 m (hts (l.map tl) m (y ++ p)) = ovP (frN 0 m (hts (l.map tl) m y)) m (hit2 (l.map tl) m y p) := by
    rw [hts_app _ m (by omega), ovP_app, hov, if_neg (by simp)]
  have hfA : frN 0 m (hts (l.map tl) m (y ++ p)) = frN (frN 0 m (hts (l.map tl) m y)) m (hit2 (l.map tl) m y p) := by
    rw [hts_app _ m (by omega), frN_app]
  rw [hD2, hKt] at q2
  have hdl : ((rwd (l.map tl) m T y).drop (y.length - hld2 (l.map tl) m y) ++ p).length = hld2 (l.map tl) m y + p.length := by rw [List.length_append, List.length_drop, hrl]; omega
  have hPl : (puts T (y.length - hld2 (l.map tl) m y) ((rwd (l.map tl) m T y).drop (y.length - hld2 (l.map tl) m y) ++ p) (hit2 (l.map tl) m y p)).length = hld2 (l.map tl) m y + p.length := by
    rw [puts_len (m := m) hT _ _ (by rw [hdl]; exact hit2_in (l.map tl) m (by omega) y p T.length hLl), hdl]
  generalize hP : puts T (y.length - hld2 (l.map tl) m y) ((rwd (l.map tl) m T y).drop (y.length - hld2 (l.map tl) m y) ++ p) (hit2 (l.map tl) m y p) = P at *
  have hta : ((rwd (l.map tl) m T y).take (y.length - hld2 (l.map tl) m y)).length = y.length - hld2 (l.map tl) m y := by rw [List.length_take, hrl]; omega
  have hal : (y ++ p).length = y.length + p.length := List.length_append
  rcases q2 with ⟨a1, a2, a3⟩ | ⟨a1, o, a2, a3, a4, a5⟩
  · exact .inl ⟨by rw [hoA]; exact a1, by rw [hoA]; exact a2, a3⟩
  · refine .inr ⟨by rw [hoA]; exact a1, o, _, _, a2, a3, a4, ?_, _, P.drop (hld2 (l.map tl) m y + p.length - hld2 (l.map tl) m (y ++ p)) ++ K.drop (hld2 (l.map tl) m (y ++ p)), ?_, ?_, hA, ?_⟩
    · rw [hpl2, (tk_in _ P _ _ hta (by omega)).1]
      congr 2
      omega
    · rw [List.length_append, List.length_drop, List.length_drop, hPl, hK]; omega
    · rw [hfA, hal]; exact a5
    · have hd : (P.drop (hld2 (l.map tl) m y + p.length - hld2 (l.map tl) m (y ++ p))).length = hld2 (l.map tl) m (y ++ p) := by rw [List.length_drop, hPl]; omega
      rw [List.take_append_of_le_length (by omega), List.take_of_length_le (by omega), hpl2, (tk_in _ P _ _ hta (by omega)).2]
      congr 1
      omega
end Go.Proofs.Ytceaklefdahfkab

/- Both ways of rewriting: what they answer; the document's Rewrite, Masker, Mask. -/
namespace Go.Proofs.Ytceaklefdahfkab
open Go.RowKit
/-- What Rewrite answers: the error, its place, the bytes. -/
def wans (m nv : Nat) (T : List ByteArray) (D : List Nat) (H : List (Int × Int)) : Int × Int × List Nat :=
  if T.length ≠ nv then (2, 0, []) else if allW m T = false then (50, 0, []) else if (ovP 0 m H).2 = true then (52, (ovP 0 m H).1, []) else (0, 0, puts T 0 D H)
def WaP (a : Int × Int × List Nat) (e : Ending) (w' : World) : Prop := ∃ o n c, e = .returned (.tuple #[.slice o n c, .int .i64 a.1, .int .i64 a.2.1]) ∧ Si .u8 (.slice o n c) a.2.2 w'
theorem WaP.nil {a : Int × Int × List Nat} {e : Ending} {w' : World} (ha : a.2.2 = []) (he : e = .returned (.tuple #[.slice none 0 0, .int .i64 a.1, .int .i64 a.2.1])) : WaP a e w' := ⟨none, 0, 0, he, .inl ⟨rfl, ha⟩⟩
theorem rwP_wa {m nv B : Nat} {T : List ByteArray} {D : List Nat} {H : List (Int × Int)} {e : Ending} {w' : World} (h : RwP m nv T D H B e w') (hin : ∀ x ∈ H, Hin 0 D.length m nv x) : WaP (wans m nv T D H) e w' := by
  rcases h with ⟨h1, he⟩ | ⟨h1, h2, he⟩ | ⟨h1, h2, h3, he⟩ | ⟨h1, h2, h3, v, he, ho⟩
  · unfold wans; rw [if_pos h1]; exact .nil rfl he
  · unfold wans; rw [if_neg (by simp [h1]), if_pos h2]; exact .nil rfl he
  · unfold wans; rw [if_neg (by simp [h1]), if_neg (by simp [h2]), if_pos h3]; exact .nil rfl he
  · unfold wans; rw [if_neg (by simp [h1]), if_neg (by simp [h2]), if_neg (by simp [h3])]
    obtain ⟨o, c, rfl⟩ := own_size ho
    have hl : (puts T 0 D H).length = D.length := puts_len (allW_all h2) H D (by rw [h1]; exact hin)
    exact ⟨o, _, c, he, own_si ho hl.symm⟩
set_option maxRecDepth 100000 in
theorem feedW_nil (v : Value) (w : World) : Calls Try.prog 67 #[.pointer none, v] w fun e w' => e = .returned (.tuple #[.slice none 0 0, .int .i64 0, .int .i64 0]) ∧ w' = w := by
  go_enter Try.func67, Try.ntmps67
  go_wp2
  go_ret3
  exact ⟨rfl, rfl⟩
theorem closeW_nil (w : World) : Calls Try.prog 70 #[.pointer none] w fun e w' => e = .returned (.tuple #[.slice none 0 0, .int .i64 0, .int .i64 0]) ∧ w' = w := by
  go_enter Try.func70, Try.ntmps70
  go_wp2
  go_ret3
  exact ⟨rfl, rfl⟩
theorem rwrD_nil (v : Value) (w : World) : Calls Try.prog 37 #[.pointer none, v] w fun e w' => e = .returned (.tuple #[.pointer none, .int .i64 0]) ∧ w' = w := by
  go_enter Try.func37, Try.ntmps37
  go_wp2
  go_ret2
  exact ⟨rfl, rfl⟩
theorem mkrD_nil (w : World) : Calls Try.prog 40 #[.pointer none] w fun e w' => e = .returned (.pointer none) ∧ w' = w := by
  go_enter Try.func40, Try.ntmps40
  go_wp2
  go_ret
  exact ⟨rfl, rfl⟩
theorem app_nil (w : World) (ty : Nat) : (apP ty #[.slice none 0 0, .slice none 0 0]).run Try.prog w = .ok (.slice none 0 0) w := by
  obtain ⟨i0, hi0, hz0, hz1, hz2⟩ := info_parts info5
  exact run_append_owned_none (P := Try.prog) w 0 23 ty 5 i0 1 Try.underlying23 hi0 _ 0 [] (World.ownsRow_nil _ _ _ _)
attribute [local go_sem ↓] toApP
set_option maxRecDepth 100000 in
theorem rewriteD_nil (u v : Value) (w : World) : Calls Try.prog 43 #[.pointer none, u, v] w fun e w' => e = .returned (.tuple #[.slice none 0 0, .int .i64 0, .int .i64 0]) ∧ w' = w := by
  have C1 : Hid _ := rwrD_nil v w
  have C2 : Hid _ := feedW_nil u w
  have C3 : Hid _ := closeW_nil w
  have r := app_nil w 23
  go_enter Try.func43, Try.ntmps43
  go_wp2_with fail
  refine Calls.mono C1.out ?_
  rintro e W ⟨rfl, rfl⟩
  go_wp2_with fail
  refine Calls.mono C2.out ?_
  rintro e W ⟨rfl, rfl⟩
  go_wp2_with fail
  refine Calls.mono C3.out ?_
  rintro e W ⟨rfl, rfl⟩
  go_wp2
  go_ret3
  exact ⟨rfl, rfl⟩
set_option maxRecDepth 100000 in
theorem maskD_nil (u : Value) (w : World) : Calls Try.prog 44 #[.pointer none, u] w fun e w' => e = .returned (.tuple #[.slice none 0 0, .slice none 0 0, .int .i64 0, .int .i64 0]) ∧ w' = w := by
  have C1 : Hid _ := mkrD_nil w
  have C2 : Hid _ := feedW_nil u w
  have C3 : Hid _ := closeW_nil w
  have C4 : Hid _ := scanR_nil u w
  have r := app_nil w 23
  go_enter Try.func44, Try.ntmps44
  go_wp2_with fail
  refine Calls.mono C1.out ?_
  rintro e W ⟨rfl, rfl⟩
  go_wp2_with fail
  refine Calls.mono C2.out ?_
  rintro e W ⟨rfl, rfl⟩
  go_wp2_with fail
  refine Calls.mono C3.out ?_
  rintro e W ⟨rfl, rfl⟩
  go_wp2_with fail
  refine Calls.mono C4.out ?_
  rintro e W ⟨rfl, rfl⟩
  go_wp2
  go_returns
  exact ⟨rfl, rfl⟩
theorem dcP_some {m : Nat} {H : List (Int × Int)} {a : Int} (h : dcP (m : Int) (-(m : Int)) H = some a) : (ovP 0 m H).2 = true ∧ a = (ovP 0 m H).1 := by
  rw [dcP_ovP] at h
  by_cases hc : (ovP 0 m H).2 = true
  · rw [if_pos hc] at h; exact ⟨hc, (Option.some.inj h).symm⟩
  · rw [if_neg hc] at h; cases h
theorem dcP_none {m : Nat} {H : List (Int × Int)} (h : dcP (m : Int) (-(m : Int)) H = none) : (ovP 0 m H).2 = false := by
  rw [dcP_ovP] at h
  by_cases hc : (ovP 0 m H).2 = true
  · rw [if_pos hc] at h; cases h
  · simpa using hc
/-- From Feed's answer on: what the document closes and joins. -/
theorem join_d (gd g hh : Nat) (T : List ByteArray) (D : List Nat) (H : List (Int × Int)) (v lvv tv : Value) (ox : Option Addr) (lx cx : Nat) (pr : Int) (B : Nat) (W : World) (hh' : hh ≤ D.length) (hPl : (puts T 0 D H).length = D.length) (hDl : D.length ≤ 16777216) (hB : gd < B) (hBW : B ≤ W.heap.size)
    (ho : W.ownsRow B 5 1 v (D.length - hh) (ik .u8 ((puts T 0 D H).take (D.length - hh))).toList) (hr : Rdw gd g lvv D.length tv (.slice ox lx cx) pr (hh : Int) false false W) (hs : Si .u8 (.slice ox lx cx) ((puts T 0 D H).drop (D.length - hh)) W) (hg : (Value.slice ox lx cx).ownBlock ≠ some gd) :
    Calls Try.prog 70 #[.pointer (some ⟨gd, 0, none⟩)] W fun e w' => e = .returned (.tuple #[.slice ox lx cx, .int .i64 0, .int .i64 0]) ∧ ∃ o c W2, (apP 23 #[v, .slice ox lx cx]).run Try.prog w' = .ok (.slice o D.length c) W2 ∧ Hid (Si .u8 (.slice o D.length c) (puts T 0 D H) W2 ∧ But gd W w' ∧ Below B w' W2) := by
  refine (closeD_any gd g lvv D.length tv ox lx cx pr (hh : Int) W hr).mono ?_
  rintro e w' ⟨he, hb⟩
  have ho2 : w'.ownsRow B 5 1 v (D.length - hh) (ik .u8 ((puts T 0 D H).take (D.length - hh))).toList := own_keep2 ho fun k hk => hb.block k (ho.lt k hk).2 (by have := (ho.lt k hk).1; omega)
  have hs2 : Si .u8 (.slice ox lx cx) ((puts T 0 D H).drop (D.length - hh)) w' := hs.keep hb.size fun k hk hz => hb.block k hz fun e => hg (by rw [hk, e])
  obtain ⟨v', W2, r, o2, b2⟩ := run_apP w' B _ 23 v _ _ _ ho2 hs2 (by rw [List.length_drop, hPl]; omega) (by have := hb.size; omega)
  have hn : D.length - hh + ((puts T 0 D H).drop (D.length - hh)).length = D.length := by rw [List.length_drop, hPl]; omega
  rw [hn, List.take_append_drop] at o2
  obtain ⟨o, c, rfl⟩ := own_size o2
  exact ⟨he, o, c, W2, r, own_si o2 hPl.symm, hb, b2⟩
set_option maxRecDepth 100000 in
set_option maxHeartbeats 1600000 in
theorem rewriteD_gen (g m nv hh : Nat) (T : List ByteArray) (D : List Nat) (H : List (Int × Int)) (tvl dv : Value) (w : World) (hh' : hh ≤ D.length) (hDl : D.length ≤ 16777216) (hin : ∀ x ∈ H, Hin 0 D.length m nv x)
    (CR : Calls Try.prog 37 #[.pointer (some ⟨g, 0, none⟩), tvl] w fun e w' => Below w.heap.size w w' ∧ RdnP m nv g T w.heap.size e w')
    (CFD : ∀ gd tv W, Below w.heap.size w W → w.heap.size ≤ gd → Rdw gd g (.slice none 0 0) 0 tv (.slice none 0 0) (-(m : Int)) 0 false false W → St tv T W → tv.ownBlock ≠ some gd → allW m T = true → T.length = nv → Calls Try.prog 67 #[.pointer (some ⟨gd, 0, none⟩), dv] W fun e w' => But gd W w' ∧ RdF gd g m T D H hh tv W.heap.size e w') :
    Calls Try.prog 43 #[.pointer (some ⟨g, 0, none⟩), dv, tvl] w fun e w' => Below w.heap.size w w' ∧ WaP (wans m nv T D H) e w' := by
  have HCFD : Hid _ := CFD
  have HCR : Hid _ := CR
  have HIN : Hid _ := hin
  clear CFD CR hin
  go_enter Try.func43, Try.ntmps43
  go_wp2_with fail
  refine Calls.mono HCR.out ?_
  rintro e W ⟨hb, hP⟩
  clear HCR
  rcases hP with ⟨x1, rfl⟩ | ⟨x1, x2, rfl⟩ | ⟨x1, x2, gd, tv, rfl, x3, x4, x5, x6⟩
  · have HE : Hid (∀ e, e = .returned (.tuple #[.slice none 0 0, .int .i64 2, .int .i64 0]) → Below w.heap.size w W ∧ WaP (wans m nv T D H) e W) := fun e he => ⟨hb, by unfold wans; rw [if_pos x1]; exact .nil rfl he⟩
    clear hb x1 HCFD
    go_wp2
    go_ret3
    exact HE.out _ rfl
  · have HE : Hid (∀ e, e = .returned (.tuple #[.slice none 0 0, .int .i64 50, .int .i64 0]) → Below w.heap.size w W ∧ WaP (wans m nv T D H) e W) := fun e he => ⟨hb, by unfold wans; rw [if_neg (by simp [x1]), if_pos x2]; exact .nil rfl he⟩
    clear hb x1 x2 HCFD
    go_wp2
    go_ret3
    exact HE.out _ rfl
  · have CF : Hid _ := HCFD.out gd tv W hb x3 x4 x5 x6 x2 x1
    have HX : Hid (Below w.heap.size w W ∧ w.heap.size ≤ gd ∧ T.length = nv ∧ allW m T = true ∧ gd < W.heap.size) := ⟨hb, x3, x1, x2, (Array.getElem?_eq_some_iff.1 x4).1⟩
    clear hb x1 x2 x3 x4 x5 x6 HCFD
    go_wp2_with fail
    refine Calls.mono CF.out ?_
    rintro e W1 ⟨hb1, hF⟩
    clear CF
    have hbw1 : Below w.heap.size w W1 := HX.out.1.trans ⟨hb1.os, hb1.tape, hb1.output, hb1.size, fun j hj => hb1.block j (by have := HX.out.1.size; omega) (by have := HX.out.2.1; omega)⟩
    rcases hF with ⟨a, hd, rfl⟩ | ⟨hd, v, lvv, ox, lx, cx, pr, rfl, f1, f2, f3, f4⟩
    · obtain ⟨d1, d2⟩ := dcP_some hd
      have HE : Hid (∀ e, e = .returned (.tuple #[.slice none 0 0, .int .i64 52, .int .i64 a]) → Below w.heap.size w W1 ∧ WaP (wans m nv T D H) e W1) := fun e he => ⟨hbw1, by unfold wans; rw [if_neg (by simp [HX.out.2.2.1]), if_neg (by simp [HX.out.2.2.2.1]), if_pos d1]; exact .nil rfl (by rw [he, d2])⟩
      clear hbw1 hd d1 d2 HX hb1
      go_wp2
      go_ret3
      exact HE.out _ rfl
    · have hPl : (puts T 0 D H).length = D.length := puts_len (allW_all HX.out.2.2.2.1) H D (by rw [HX.out.2.2.1]; exact HIN.out)
      have CJ : Hid _ := join_d gd g hh T D H v lvv tv ox lx cx pr W.heap.size W1 hh' hPl hDl HX.out.2.2.2.2 hb1.size f1 f2 f3 f4
      obtain ⟨ov2, cv2, hv2⟩ := own_size f1
      subst hv2
      have HE : Hid (∀ W2 W3 e o c, But gd W1 W2 → Below W.heap.size W2 W3 → Si .u8 (.slice o D.length c) (puts T 0 D H) W3 → e = .returned (.tuple #[.slice o D.length c, .int .i64 0, .int .i64 0]) → Below w.heap.size w W3 ∧ WaP (wans m nv T D H) e W3) := fun W2 W3 e o c h1 h2 h3 he => by
        have hz := HX.out.1.size
        have h4 : Below w.heap.size w W2 := hbw1.trans ⟨h1.os, h1.tape, h1.output, h1.size, fun j hj => h1.block j (by have := hbw1.size; omega) (by have := HX.out.2.1; omega)⟩
        refine ⟨h4.trans (h2.mono hz), ?_⟩
        unfold wans
        rw [if_neg (by simp [HX.out.2.2.1]), if_neg (by simp [HX.out.2.2.2.1]), if_neg (by simp [dcP_none hd])]
        exact ⟨o, _, c, he, h3⟩
      clear f1 f2 f3 f4 hd hbw1 hb1 hPl HX
      go_wp2_with fail
      refine Calls.mono CJ.out ?_
      rintro e W2 ⟨rfl, o, c, W3, r, HJ⟩
      clear CJ
      have HE2 : Hid _ := HE.out W2 W3 _ o c HJ.out.2.1 HJ.out.2.2 HJ.out.1 rfl
      clear HE HJ
      go_wp2
      go_ret3
      exact HE2.out
theorem bst_z (m : Nat) : bst (List.replicate m 0) = zst m := by
  apply tl_inj
  rw [zst_tl, tl_bst _ (fun x hx => by rw [List.eq_of_mem_replicate hx]; omega)]
/-- What the document's Masker answers. -/
def RdmP (m nv g B : Nat) (e : Ending) (w' : World) : Prop := ∃ gd tv, e = .returned (.pointer (some ⟨gd, 0, none⟩)) ∧ B ≤ gd ∧ Rdw gd g (.slice none 0 0) 0 tv (.slice none 0 0) (-(m : Int)) 0 false false w' ∧ St tv (List.replicate nv (zst m)) w' ∧ tv.ownBlock ≠ some gd
attribute [local go_sem ↓] toApS toMkB
set_option maxRecDepth 100000 in
set_option maxHeartbeats 1600000 in
theorem mkrD_any (g : Nat) (lvl : Value) (fv : Nat → Value) (l : List ByteArray) (hll : l.length ≤ 4096) (F : Nat → List Nat) (m : Nat) (hm : m ≤ 64) (w : World) (h : Rf g lvl fv l F m w) :
    Calls Try.prog 40 #[.pointer (some ⟨g, 0, none⟩)] w fun e w' => Below w.heap.size w w' ∧ RdmP m l.length g w.heap.size e w' := by
  obtain ⟨ol, cl, hol⟩ := own_size h.ol
  subst hol
  have gz := h.gz
  have c0 : w.cell? ⟨g, 0, none⟩ = some (.slice ol l.length cl) := (cell_of_row w g 0 _ _ _ h.row).trans (rfC_0 _ _ _)
  have cw : w.cell? ⟨g, 257, none⟩ = some (.int .i64 (m : Int)) := (cell_of_row w g 257 _ _ _ h.row).trans (rfC_w _ _ _)
  obtain ⟨W1, r1, R1, b1, z1⟩ := run_mkB w m (by omega)
  have hSi : Si .u8 (.slice (some ⟨w.heap.size, 0, none⟩) m m) (List.replicate m 0) W1 := .inr ⟨_, 0, m, by simp, by simp, by unfold maxLen; omega, (Array.getElem?_eq_some_iff.1 R1).1, fun j hj => by rw [Nat.zero_add]; exact (cell_of_row W1 _ _ _ _ _ R1).trans (ik_get _ _ _ hj)⟩
  have cv := conv_si hSi
  rw [bst_z] at cv
  have HC0 : Hid (∀ W, Below w.heap.size w W → W.cell? ⟨g, 0, none⟩ = some (.slice ol l.length cl)) := fun W hb => (World.cell?_of_block (w := w) (hb.block g gz)).trans c0
  have CR : Hid (∀ W v, Below w.heap.size w W → St v (List.replicate l.length (zst m)) W → Calls Try.prog 37 #[.pointer (some ⟨g, 0, none⟩), v] W fun e w' => ∃ gd tv, e = .returned (.tuple #[.pointer (some ⟨gd, 0, none⟩), .int .i64 0]) ∧ Hid (Below w.heap.size w w' ∧ w.heap.size ≤ gd ∧ Rdw gd g (.slice none 0 0) 0 tv (.slice none 0 0) (-(m : Int)) 0 false false w' ∧ St tv (List.replicate l.length (zst m)) w' ∧ tv.ownBlock ≠ some gd)) := fun W v hb hv => by
    refine (rwrD_any g _ fv l F m hm (List.replicate l.length (zst m)) (by simp; omega) (fun s hs => by rw [List.eq_of_mem_replicate hs, zst_size]; omega) v W (h.below hb) hv).mono ?_
    rintro e w' ⟨hb2, hP⟩
    rcases hP with ⟨x1, -⟩ | ⟨-, x1, -⟩ | ⟨-, -, gd, tv, he, x3, x4, x5, x6⟩
    · exact absurd (List.length_replicate ..) x1
    · rw [zall] at x1; cases x1
    · exact ⟨gd, tv, he, hb.trans (hb2.mono hb.size), by have := hb.size; omega, x4, x5, x6⟩
  have HB1 : Hid (Below w.heap.size w W1) := b1
  have HO0 : Hid (W1.ownsRow w.heap.size 9 1 (.slice none 0 0) 0 (sk (List.replicate 0 (zst m))).toList) := World.ownsRow_nil _ _ _ _
  obtain ⟨z, hz⟩ : ∃ z, z = zst m := ⟨_, rfl⟩
  have HZ : Hid (z = zst m) := hz
  rw [← hz] at cv CR HO0
  clear hz
  clear h R1 hSi b1 z1 gz
  go_enter Try.func40, Try.ntmps40
  go_wp2_with fail
  go_loopw [3, 5] (fun tv iv wr => ∃ k : Nat, iv = .int .i64 (k : Int) ∧ k ≤ l.length ∧ Hid (wr.ownsRow w.heap.size 9 1 tv k (sk (List.replicate k z)).toList ∧ Below w.heap.size w wr)) (fun _ iv _ => l.length - (intOf iv).toNat)
  case atStart => exact ⟨0, rfl, by omega, HO0.out, HB1.out⟩
  case round =>
    clear HO0 HB1 r1 cv
    obtain ⟨k, rfl, hk, HI⟩ := hrel
    have c0r := HC0.out wr HI.out.2
    obtain ⟨ot, ct, htv⟩ := own_size HI.out.1
    subst htv
    by_cases hlt : k < l.length
    · have hk1 : (k : Int) < (l.length : Int) := by omega
      obtain ⟨v', W4, r4, o4, g4⟩ := run_apS wr w.heap.size k 22 (.slice ot k ct) (List.replicate k z) z HI.out.1 (by omega) HI.out.2.size
      have HI2 : Hid (W4.ownsRow w.heap.size 9 1 v' (k + 1) (sk (List.replicate (k + 1) z)).toList ∧ Below w.heap.size w W4) := by
        refine ⟨by rw [List.replicate_succ']; exact o4, ?_⟩
        have hz := HI.out.2.size
        refine HI.out.2.trans ⟨by rw [g4.os]; rfl, by rw [g4.tape]; rfl, by rw [g4.output]; rfl, by have := g4.size; simp at this; omega, fun j hj => ?_⟩
        rw [g4.block j (by simp; omega) (fun e => by have := (HI.out.1.lt j e.symm).1; omega), heap_alloc_old _ _ (h := by omega)]
      clear o4 g4 HI
      go_wp2
      exact ⟨⟨k + 1, by rfl, by omega, HI2⟩, by simp only [intOf]; omega⟩
    · have hk1 : ¬ ((k : Int) < (l.length : Int)) := by omega
      have hke : k = l.length := by omega
      obtain ⟨i1, i2⟩ := HI.out
      have hst : St (.slice ot k ct) (List.replicate l.length z) wr := by
        have := own_st i1 (by simp)
        rw [hke] at this ⊢
        exact this
      have C1 : Hid _ := CR.out wr _ i2 hst
      clear i1 i2 hst HI hke CR
      go_wp2_with fail
      refine Calls.mono C1.out ?_
      rintro e W5 ⟨gd, tv, rfl, HE⟩
      clear C1
      go_wp2
      go_ret
      have HE2 := HE.out
      rw [HZ.out] at HE2
      exact ⟨HE2.1, gd, tv, rfl, HE2.2⟩
/-- What Mask answers. -/
def mans (m nv : Nat) (D : List Nat) (H : List (Int × Int)) : Int × Int × List Nat × List (Int × Int) := if (ovP 0 m H).2 = true then (52, (ovP 0 m H).1, [], []) else (0, 0, puts (List.replicate nv (zst m)) 0 D H, H)
def MaP (a : Int × Int × List Nat × List (Int × Int)) (e : Ending) (w' : World) : Prop := ∃ o n c oh nh ch, e = .returned (.tuple #[.slice o n c, .slice oh nh ch, .int .i64 a.1, .int .i64 a.2.1]) ∧ Si .u8 (.slice o n c) a.2.2.1 w' ∧ Hl (.slice oh nh ch) a.2.2.2 w'
theorem MaP.nil {a : Int × Int × List Nat × List (Int × Int)} {e : Ending} {w' : World} (ha : a.2.2.1 = []) (hb : a.2.2.2 = []) (he : e = .returned (.tuple #[.slice none 0 0, .slice none 0 0, .int .i64 a.1, .int .i64 a.2.1])) : MaP a e w' := ⟨none, 0, 0, none, 0, 0, he, .inl ⟨rfl, ha⟩, .inl ⟨rfl, hb⟩⟩
theorem mkP_ma {m nv B : Nat} {D : List Nat} {H : List (Int × Int)} {e : Ending} {w' : World} (h : MkP m nv D H B e w') (hin : ∀ x ∈ H, Hin 0 D.length m nv x) : MaP (mans m nv D H) e w' := by
  rcases h with ⟨h1, he⟩ | ⟨h1, v, hv, he, ho, hh⟩
  · unfold mans; rw [if_pos h1]; exact .nil rfl rfl he
  · unfold mans; rw [if_neg (by simp [h1])]
    obtain ⟨o, c, rfl⟩ := own_size ho
    obtain ⟨o2, c2, rfl⟩ := own_size hh
    have hl : (puts (List.replicate nv (zst m)) 0 D H).length = D.length := puts_len (allW_all (zall m nv)) H D (by rw [List.length_replicate]; exact hin)
    exact ⟨o, _, c, o2, _, c2, he, own_si ho hl.symm, (hl_own hh).1⟩
attribute [local go_sem ↓] toApP
set_option maxRecDepth 100000 in
set_option maxHeartbeats 1600000 in
theorem maskD_gen (g m nv hh : Nat) (D : List Nat) (H : List (Int × Int)) (dv : Value) (w : World) (hh' : hh ≤ D.length) (hDl : D.length ≤ 16777216) (hin : ∀ x ∈ H, Hin 0 D.length m nv x)
    (CR : Calls Try.prog 40 #[.pointer (some ⟨g, 0, none⟩)] w fun e w' => Below w.heap.size w w' ∧ RdmP m nv g w.heap.size e w')
    (CFD : ∀ gd tv W, Below w.heap.size w W → w.heap.size ≤ gd → Rdw gd g (.slice none 0 0) 0 tv (.slice none 0 0) (-(m : Int)) 0 false false W → St tv (List.replicate nv (zst m)) W → tv.ownBlock ≠ some gd → Calls Try.prog 67 #[.pointer (some ⟨gd, 0, none⟩), dv] W fun e w' => But gd W w' ∧ RdF gd g m (List.replicate nv (zst m)) D H hh tv W.heap.size e w')
    (CS : ∀ W, Below w.heap.size w W → Calls Try.prog 62 #[.pointer (some ⟨g, 0, none⟩), dv] W fun e w' => ∃ o n c, e = .returned (.slice o n c) ∧ Hl (.slice o n c) H w' ∧ Below W.heap.size W w') :
    Calls Try.prog 44 #[.pointer (some ⟨g, 0, none⟩), dv] w fun e w' => Below w.heap.size w w' ∧ MaP (mans m nv D H) e w' := by
  have HCFD : Hid _ := CFD
  have HCR : Hid _ := CR
  have HCS : Hid _ := CS
  have HPl : Hid ((puts (List.replicate nv (zst m)) 0 D H).length = D.length) := puts_len (allW_all (zall m nv)) H D (by rw [List.length_replicate]; exact hin)
  clear CFD CR CS hin
  go_enter Try.func44, Try.ntmps44
  go_wp2_with fail
  refine Calls.mono HCR.out ?_
  rintro e W ⟨hb, gd, tv, rfl, x3, x4, x5, x6⟩
  clear HCR
  have CF : Hid _ := HCFD.out gd tv W hb x3 x4 x5 x6
  have HX : Hid (Below w.heap.size w W ∧ w.heap.size ≤ gd ∧ gd < W.heap.size) := ⟨hb, x3, (Array.getElem?_eq_some_iff.1 x4).1⟩
  clear hb x3 x4 x5 x6 HCFD
  go_wp2_with fail
  refine Calls.mono CF.out ?_
  rintro e W1 ⟨hb1, hF⟩
  clear CF
  have hbw1 : Below w.heap.size w W1 := HX.out.1.trans ⟨hb1.os, hb1.tape, hb1.output, hb1.size, fun j hj => hb1.block j (by have := HX.out.1.size; omega) (by have := HX.out.2.1; omega)⟩
  rcases hF with ⟨a, hd, rfl⟩ | ⟨hd, v, lvv, ox, lx, cx, pr, rfl, f1, f2, f3, f4⟩
  · obtain ⟨d1, d2⟩ := dcP_some hd
    have HE : Hid (∀ e, e = .returned (.tuple #[.slice none 0 0, .slice none 0 0, .int .i64 52, .int .i64 a]) → Below w.heap.size w W1 ∧ MaP (mans m nv D H) e W1) := fun e he => ⟨hbw1, by unfold mans; rw [if_pos d1]; exact .nil rfl rfl (by rw [he, d2])⟩
    clear hbw1 hd d1 d2 HX hb1 HCS
    go_wp2
    go_returns
    exact HE.out _ rfl
  · have CJ : Hid _ := join_d gd g hh (List.replicate nv (zst m)) D H v lvv tv ox lx cx pr W.heap.size W1 hh' HPl.out hDl HX.out.2.2 hb1.size f1 f2 f3 f4
    obtain ⟨ov2, cv2, hv2⟩ := own_size f1
    subst hv2
    have HE : Hid (∀ W2 W3, But gd W1 W2 → Below W.heap.size W2 W3 → Below w.heap.size w W3) := fun W2 W3 h1 h2 => by
      have hz := HX.out.1.size
      have h4 : Below w.heap.size w W2 := hbw1.trans ⟨h1.os, h1.tape, h1.output, h1.size, fun j hj => h1.block j (by have := hbw1.size; omega) (by have := HX.out.2.1; omega)⟩
      exact h4.trans (h2.mono hz)
    have HOV : Hid ((ovP 0 m H).2 = false) := dcP_none hd
    clear f1 f2 f3 f4 hd hbw1 hb1 HX
    go_wp2_with fail
    refine Calls.mono CJ.out ?_
    rintro e W2 ⟨rfl, o, c, W3, r, HJ⟩
    clear CJ
    have HB3 : Hid (Below w.heap.size w W3) := HE.out W2 W3 HJ.out.2.1 HJ.out.2.2
    have CS3 : Hid _ := HCS.out W3 HB3.out
    clear HE HCS
    go_wp2_with fail
    refine Calls.mono CS3.out ?_
    rintro e W4 ⟨oh, nh, ch, rfl, hl4, b4⟩
    clear CS3
    have HE2 : Hid (∀ e, e = .returned (.tuple #[.slice o D.length c, .slice oh nh ch, .int .i64 0, .int .i64 0]) → Below w.heap.size w W4 ∧ MaP (mans m nv D H) e W4) := fun e he => by
      refine ⟨HB3.out.trans (b4.mono HB3.out.size), ?_⟩
      unfold mans
      rw [if_neg (by simp [HOV.out])]
      exact ⟨o, _, c, oh, nh, ch, he, HJ.out.1.below b4, hl4⟩
    clear HJ HB3 HOV hl4 b4
    go_wp2
    go_returns
    exact HE2.out _ rfl
end Go.Proofs.Ytceaklefdahfkab
