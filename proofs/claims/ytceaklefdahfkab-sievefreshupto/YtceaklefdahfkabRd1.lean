/- The document's scanner within a greater object: Feed, Held. -/
import Derived.Test.YtceaklefdahfkabSc6
namespace Go.Proofs.Ytceaklefdahfkab
open Go.RowKit
/-- The document's scanner at the head of a block. -/
def Rsg (X : List Value) (ty gs g : Nat) (lv : Value) (n : Nat) (w : World) : Prop := w.heap[gs]? = some (.cells (.pointer (some ⟨g, 0, none⟩) :: lv :: .int .i64 (n : Int) :: X).toArray ty (0, 0))
attribute [local go_sem ↓] toSlB toApB toMkB
set_option maxRecDepth 100000 in
set_option maxHeartbeats 3200000 in
theorem feedR_gen (X : List Value) (ty gs g m n : Nat) (sc : List Nat → List (Int × Int)) (a p : List Nat) (lvv pv : Value) (w : World) (hne : g ≠ gs) (hm : m ≤ 64) (hn : n ≤ 1125899906842624) (han : a.length ≤ n) (hal : a.length ≤ 64) (hpl : p.length ≤ 16777216)
    (hs : Rsg X ty gs g lvv n w) (ha : Si .u8 lvv a w) (hp : Si .u8 pv p w) (hgz : g < w.heap.size) (hgw : w.cell? ⟨g, 257, none⟩ = some (.int .i64 (m : Int)))
    (CS : ∀ W v, Below w.heap.size w W → Si .u8 v (a ++ p) W → Calls Try.prog 62 #[.pointer (some ⟨g, 0, none⟩), v] W fun e w' => ∃ v', e = .returned v' ∧ w'.ownsRow W.heap.size 39 2 v' (sc (a ++ p)).length (hc (sc (a ++ p))) ∧ Below W.heap.size W w')
    (hsc : ∀ x ∈ sc (a ++ p), 0 ≤ x.1 ∧ x.1 ≤ 1125899906842624) :
    Calls Try.prog 30 #[.pointer (some ⟨gs, 0, none⟩), pv] w fun e w' => ∃ v lvv', e = .returned v ∧ w'.ownsRow w.heap.size 39 2 v (sc (a ++ p)).length (hc ((sc (a ++ p)).map (shf ((n - a.length : Nat) : Int)))) ∧
      Rsg X ty gs g lvv' (n + p.length) w' ∧ Si .u8 lvv' (lastN m (a ++ p)) w' ∧ (∀ k, lvv'.ownBlock = some k → w.heap.size ≤ k) ∧ But gs w w' := by
  obtain ⟨W1, W2, W3, r1, r2, r3, b1, b2, b3, hall⟩ := mk_all w a p lvv pv ha hp (by omega)
  obtain ⟨oa, ca, rfl, _⟩ := ha.form
  obtain ⟨op, cp, rfl, _⟩ := hp.form
  have gsz : gs < w.heap.size := (Array.getElem?_eq_some_iff.1 hs).1
  obtain ⟨N, hN⟩ : ∃ N, N = a.length + p.length := ⟨_, rfl⟩
  have HN : Hid (N = a.length + p.length) := hN
  rw [← hN] at r1 r2 r3 hall
  have e1 : IntKind.i64.wrap ((a.length : Int) + (p.length : Int)) = (N : Int) := by rw [wi _ (by unfold I64; omega)]; omega
  obtain ⟨LV, hLV⟩ : ∃ LV, LV = Value.slice oa a.length ca := ⟨_, rfl⟩
  have cc : ∀ W, Below w.heap.size w W → W.cell? ⟨gs, 0, none⟩ = some (.pointer (some ⟨g, 0, none⟩)) ∧ W.cell? ⟨gs, 1, none⟩ = some (.slice oa a.length ca) ∧ W.cell? ⟨gs, 2, none⟩ = some (.int .i64 (n : Int)) := fun W hb => by
    have h0 : W.heap[gs]? = _ := (hb.block gs gsz).trans hs
    exact ⟨(cell_of_row W gs _ _ _ _ h0).trans (by simp), (cell_of_row W gs _ _ _ _ h0).trans (by simp), (cell_of_row W gs _ _ _ _ h0).trans (by simp)⟩
  have k0 := (cc w (Below.refl _ _)).2.1
  have k1 := (cc W1 b1).2.1
  have k3 := (cc W3 b3).1
  have CSW : Hid _ := CS W3 _ b3 hall
  have HCC : Hid _ := cc
  have HALL : Hid (Si .u8 (.slice (some ⟨w.heap.size, 0, none⟩) N N) (a ++ p) W3) := hall
  have HB3 : Hid (Below w.heap.size w W3) := b3
  have HSC : Hid _ := hsc
  have HW : Hid (w.cell? ⟨g, 257, none⟩ = some (.int .i64 (m : Int))) := hgw
  have HS : Hid (Rsg X ty gs g (.slice oa a.length ca) n w) := hs
  generalize hH : sc (a ++ p) = H at *
  clear hLV CS hs ha hp hgw hsc b1 b2 b3 hall cc hN
  go_enter Try.func30, Try.ntmps30
  go_wp2_with fail
  refine Calls.mono CSW.out ?_
  rintro e W4 ⟨v4, rfl, ho4, hb4⟩
  obtain ⟨o4, c4, rfl, _⟩ := (hl_own ho4).1.form
  have HO4 : Hid (W4.ownsRow W3.heap.size 39 2 (.slice o4 H.length c4) H.length (hc (shl ((n - a.length : Nat) : Int) H 0))) := ho4
  have HB4 : Hid (Below W3.heap.size W3 W4) := hb4
  have HX : Hid (∀ i, i < H.length → 0 ≤ (H.getD i (0, 0)).1 ∧ (H.getD i (0, 0)).1 ≤ 1125899906842624) := fun i hi => HSC.out _ (by simp only [List.getD, List.getElem?_eq_getElem hi, Option.getD_some]; exact List.getElem_mem hi)
  clear ho4 hb4 CSW k0 k1 k3 r1 r2 r3
  obtain ⟨dd, hdd⟩ : ∃ dd : Int, dd = ((n - a.length : Nat) : Int) := ⟨_, rfl⟩
  have HDD : Hid (dd = (n : Int) - (a.length : Int)) := by show _ = _; omega
  have HDE : Hid (dd = ((n - a.length : Nat) : Int)) := hdd
  rw [← hdd] at HO4
  clear hdd
  go_wp2_with fail
  go_loopw [7] (fun iv wr => ∃ i : Nat, iv = .int .i64 (i : Int) ∧ i ≤ H.length ∧ Hid (wr.ownsRow W3.heap.size 39 2 (.slice o4 H.length c4) H.length (hc (shl dd H i))) ∧ Hid (Below W3.heap.size W3 wr)) (fun iv _ => H.length - (intOf iv).toNat)
  case atStart => exact ⟨0, rfl, by omega, HO4, HB4⟩
  case round =>
    clear HO4 HB4
    obtain ⟨i, rfl, hi, HO, HB⟩ := hrel
    have hBw : Below w.heap.size w wr := HB3.out.trans (HB.out.mono HB3.out.size)
    by_cases hlt : i < H.length
    · have hi0 : (0 : Int) ≤ (i : Int) := by omega
      have hi1 : (i : Int) < (H.length : Int) := by omega
      obtain ⟨hb, cap, cur, hv, hbb, hrow⟩ := hit_row HO.out (by omega)
      cases hv
      obtain ⟨x, hx⟩ : ∃ x, x = (H.getD i (0, 0)).1 := ⟨_, rfl⟩
      have hxr := HX.out i hlt
      rw [← hx] at hxr
      obtain ⟨D, hD⟩ : ∃ D, wr.drew = D := ⟨_, rfl⟩
      have hDh : D.heap = wr.heap := by rw [← hD]; rfl
      have hcell : wr.cell? ⟨hb, i * 2, none⟩ = some (.int .i64 x) := by
        have h1 := (hl_own HO.out).1
        rcases h1 with ⟨q1, _⟩ | ⟨b', off', cap', q1, _, _, _, q5⟩
        · cases q1
        · have q6 : hb = b' ∧ off' = 0 := by
            simp only [Value.slice.injEq, Option.some.injEq, Addr.mk.injEq] at q1
            exact ⟨q1.1.1, q1.1.2.1.symm⟩
          obtain ⟨rfl, rfl⟩ := q6
          have := (q5 i (by rw [shl_len]; exact hlt)).1
          rw [shl_get _ _ _ hlt, ← hx, Nat.zero_add] at this
          exact this
      have c1 : D.cell? ⟨hb, i * 2, none⟩ = some (.int .i64 x) := by rw [← hD]; exact hcell
      have f1 : D.frozen? ⟨hb, i * 2, none⟩ = false := by rw [← hD]; exact frozen_of_row wr _ _ _ _ hrow
      have c2 : D.cell? ⟨gs, 2, none⟩ = some (.int .i64 (n : Int)) := by rw [← hD]; exact (HCC.out wr hBw).2.2
      have c3 : D.cell? ⟨gs, 1, none⟩ = some (.slice oa a.length ca) := by rw [← hD]; exact (HCC.out wr hBw).2.1
      have w1 : IntKind.i64.wrap (x + (n : Int)) = x + (n : Int) := wi _ (by unfold I64; omega)
      have w2 : IntKind.i64.wrap (x + (n : Int) - (a.length : Int)) = x + dd := by rw [wi _ (by unfold I64; omega), HDD.out]; omega
      have HO2 : Hid ((D.setCell ⟨hb, i * 2, none⟩ (.int .i64 (x + dd))).ownsRow W3.heap.size 39 2 (.slice (some ⟨hb, 0, none⟩) H.length c4) H.length (hc (shl dd H (i + 1)))) := by
        have h0 : D.ownsRow W3.heap.size 39 2 (.slice (some ⟨hb, 0, none⟩) H.length c4) H.length (hc (shl dd H i)) := own_keep2 HO.out fun k _ => by rw [hDh]
        have h1 := set_hit h0 i (by rw [shl_len]; exact hlt) (x + dd)
        rw [shl_get _ _ _ hlt, hx, shl_succ _ _ _ hlt] at h1
        rw [hx]
        exact h1
      have HB2 : Hid (Below W3.heap.size W3 (D.setCell ⟨hb, i * 2, none⟩ (.int .i64 (x + dd)))) := Below.setCell (by rw [← hD]; exact Below.drewN' HB.out 1) hbb _
      clear hrow hcell HO HB hBw hx hDh HX HSC HCC
      go_wp2_with fail
      go_big_region
      go_wp2
      exact ⟨⟨i + 1, by rfl, by omega, HO2, HB2⟩, by simp only [intOf]; omega⟩
    · have hi1 : ¬ ((i : Int) < (H.length : Int)) := by omega
      have hrow : wr.heap[gs]? = some (.cells (.pointer (some ⟨g, 0, none⟩) :: .slice oa a.length ca :: .int .i64 (n : Int) :: X).toArray ty (0, 0)) := (hBw.block gs gsz).trans HS.out
      have k2 : wr.cell? ⟨gs, 2, none⟩ = some (.int .i64 (n : Int)) := (cell_of_row wr gs _ _ _ _ hrow).trans (by simp)
      have f2 : wr.frozen? ⟨gs, 2, none⟩ = false := frozen_of_row wr _ _ _ _ hrow
      obtain ⟨n2, hn2⟩ : ∃ n2, n2 = n + p.length := ⟨_, rfl⟩
      have e4 : IntKind.i64.wrap ((n : Int) + (p.length : Int)) = (n2 : Int) := by rw [wi _ (by unfold I64; omega)]; omega
      obtain ⟨Wn, hWn⟩ : ∃ Wn, wr.setCell ⟨gs, 2, none⟩ (.int .i64 (n2 : Int)) = Wn := ⟨_, rfl⟩
      have hrown : Wn.heap[gs]? = some (.cells (.pointer (some ⟨g, 0, none⟩) :: .slice oa a.length ca :: .int .i64 (n2 : Int) :: X).toArray ty (0, 0)) := by rw [← hWn]; exact (heap_setCell_same _ _ _ _ _ _ hrow).trans (by simp)
      have kn0 : Wn.cell? ⟨gs, 0, none⟩ = some (.pointer (some ⟨g, 0, none⟩)) := (cell_of_row Wn gs _ _ _ _ hrown).trans (by simp)
      have kn1 : Wn.cell? ⟨gs, 1, none⟩ = some (.slice oa a.length ca) := (cell_of_row Wn gs _ _ _ _ hrown).trans (by simp)
      have fn1 : Wn.frozen? ⟨gs, 1, none⟩ = false := frozen_of_row Wn _ _ _ _ hrown
      have hnb : ∀ j, j ≠ gs → Wn.heap[j]? = wr.heap[j]? := fun j hj => by rw [← hWn]; exact Below.heap_setCell _ _ _ _ hj
      have knw : Wn.cell? ⟨g, 257, none⟩ = some (.int .i64 (m : Int)) := (World.cell?_of_block (w := w) ((hnb g hne).trans (hBw.block g hgz))).trans HW.out
      have nsz : Wn.heap.size = wr.heap.size := by rw [← hWn]; simp [World.setCell]
      have FIN : Hid (∀ (lv2 : Value) (K oq : Nat), K = min (m - 1) N → lv2 = .slice (some ⟨w.heap.size, oq, none⟩) K K → (0 < K → oq = N - K) → ∃ v lvv', Value.slice o4 H.length c4 = v ∧ (Wn.setCell ⟨gs, 1, none⟩ lv2).ownsRow w.heap.size 39 2 v H.length (hc (H.map (shf ((n - a.length : Nat) : Int)))) ∧
          Rsg X ty gs g lvv' (n + p.length) (Wn.setCell ⟨gs, 1, none⟩ lv2) ∧ Si .u8 lvv' (lastN m (a ++ p)) (Wn.setCell ⟨gs, 1, none⟩ lv2) ∧ (∀ k, lvv'.ownBlock = some k → w.heap.size ≤ k) ∧ But gs w (Wn.setCell ⟨gs, 1, none⟩ lv2)) := fun lv2 K oq hK hlv hoq => by
        subst hlv
        rw [← hn2]
        have hie : i = H.length := by omega
        have hz3 := HB3.out.size
        have hzr := hBw.size
        have hb2 : ∀ j, j ≠ gs → (Wn.setCell ⟨gs, 1, none⟩ (.slice (some ⟨w.heap.size, oq, none⟩) K K)).heap[j]? = wr.heap[j]? := fun j hj => (Below.heap_setCell _ _ _ _ hj).trans (hnb j hj)
        have hsz : (Wn.setCell ⟨gs, 1, none⟩ (.slice (some ⟨w.heap.size, oq, none⟩) K K)).heap.size = wr.heap.size := by rw [← nsz]; simp [World.setCell]
        refine ⟨_, .slice (some ⟨w.heap.size, oq, none⟩) K K, rfl, ?_, (heap_setCell_same _ _ _ _ _ _ hrown).trans (by simp), ?_, ?_, ?_⟩
        · have h1 := HO.out
          rw [hie, shl_all, HDE.out] at h1
          refine own_down (own_keep2 h1 fun k hk => hb2 k ?_) hz3
          have := (h1.lt k hk).1
          omega
        · have e0 : (a ++ p).length = N := by rw [List.length_append]; exact HN.out.symm
          unfold lastN
          rw [e0, ← hK]
          rcases HALL.out with ⟨q1, _⟩ | ⟨b', off', cap', q1, _, _, q4, q5⟩
          · cases q1
          · simp only [Value.slice.injEq, Option.some.injEq, Addr.mk.injEq] at q1
            obtain ⟨⟨q6, q7, _⟩, _, _⟩ := q1
            rw [← q6] at q4
            have hkl : ((a ++ p).drop (N - K)).length = K := by rw [List.length_drop, e0]; omega
            refine .inr ⟨w.heap.size, oq, K, by rw [hkl], by omega, by unfold maxLen; omega, by rw [hsz]; have := HB.out.size; omega, fun j hj => ?_⟩
            rw [hkl] at hj
            have h2 := q5 (N - K + j) (by rw [e0]; omega)
            rw [← q6, ← q7, Nat.zero_add] at h2
            rw [World.cell?_of_block (w := wr) (hb2 w.heap.size (by omega)), hoq (by omega), World.cell?_of_block (w := W3) (HB.out.block w.heap.size q4), h2]
            have : ((a ++ p).drop (N - K)).getD j 0 = (a ++ p).getD (N - K + j) 0 := by rw [List.getD, List.getElem?_drop, ← List.getD]
            rw [this]
        · intro k hk
          have : w.heap.size = k := by cases hk; rfl
          omega
        · refine ⟨?_, ?_, ?_, ?_, fun j hj hj2 => (hb2 j hj2).trans (hBw.block j hj)⟩
          · show Wn.os = _; rw [← hWn]; exact hBw.os
          · show Wn.tape = _; rw [← hWn]; exact hBw.tape
          · show Wn.output = _; rw [← hWn]; exact hBw.output
          · rw [hsz]; exact hzr
      have HNB : Hid (N ≤ 16777280) := by have := HN.out; show _ ≤ _; omega
      clear hrow hrown hnb hBw nsz hn2 HO HB HX HSC HCC HS hi hlt
      have ctE : ∀ K, K ≤ N → ∃ oq, (0 < K → oq = N - K) ∧ ∀ W, (slB (.slice (some ⟨w.heap.size, 0, none⟩) N N) (some (.int .i64 ((N - K : Nat) : Int))) none none).run Try.prog W = .ok (.slice (some ⟨w.heap.size, oq, none⟩) K K) W := fun K hK => by
        refine ⟨if N - K < N then N - K else 0, fun h => by rw [if_pos (by omega)], fun W => ?_⟩
        have := run_cutE w.heap.size N (N - K) (by omega) W
        rw [show N - (N - K) = K by omega] at this
        exact this
      have hnb2 := HNB.out
      by_cases hm0 : m = 0
      · subst hm0
        obtain ⟨oq, hoq, ct⟩ := ctE 0 (by omega)
        have HF : Hid _ := FIN.out (.slice (some ⟨w.heap.size, oq, none⟩) 0 0) 0 oq (by omega) rfl hoq
        have q1 : ¬ ((0 : Int) > (N : Int)) := by omega
        have e6 : IntKind.i64.wrap (N : Int) = (N : Int) := wi _ (by unfold I64; omega)
        rw [Nat.sub_zero] at ct
        clear FIN ctE hoq
        go_wp2
        go_ret
        obtain ⟨v, lvv', rfl, z2, z3⟩ := HF.out
        exact ⟨_, rfl, z2, lvv', z3⟩
      · obtain ⟨M1, hM1⟩ : ∃ M1, M1 = m - 1 := ⟨_, rfl⟩
        have e5 : IntKind.i64.wrap ((m : Int) - 1) = (M1 : Int) := by rw [wi _ (by unfold I64; omega)]; omega
        have q0 : ¬ ((M1 : Int) < 0) := by omega
        by_cases hq : N < M1
        · obtain ⟨oq, hoq, ct⟩ := ctE N (by omega)
          have HF : Hid _ := FIN.out (.slice (some ⟨w.heap.size, oq, none⟩) N N) N oq (by omega) rfl hoq
          have q1 : (M1 : Int) > (N : Int) := by omega
          rw [Nat.sub_self] at ct
          have ct0 : ∀ W, (slB (.slice (some ⟨w.heap.size, 0, none⟩) N N) (some (.int .i64 0)) none none).run Try.prog W = .ok (.slice (some ⟨w.heap.size, oq, none⟩) N N) W := ct
          have e6 : IntKind.i64.wrap ((N : Int) - (N : Int)) = 0 := by rw [wi _ (by unfold I64; omega)]; omega
          clear FIN ctE hoq ct hM1
          go_wp2
          go_ret
          obtain ⟨v, lvv', rfl, z2, z3⟩ := HF.out
          exact ⟨_, rfl, z2, lvv', z3⟩
        · obtain ⟨oq, hoq, ct⟩ := ctE M1 (by omega)
          have HF : Hid _ := FIN.out (.slice (some ⟨w.heap.size, oq, none⟩) M1 M1) M1 oq (by omega) rfl hoq
          have q1 : ¬ ((M1 : Int) > (N : Int)) := by omega
          obtain ⟨q2, hq2⟩ : ∃ q2, q2 = N - M1 := ⟨_, rfl⟩
          have e6 : IntKind.i64.wrap ((N : Int) - (M1 : Int)) = (q2 : Int) := by rw [wi _ (by unfold I64; omega)]; omega
          rw [← hq2] at ct
          clear hq2
          clear FIN ctE hoq hM1
          go_wp2
          go_ret
          obtain ⟨v, lvv', rfl, z2, z3⟩ := HF.out
          exact ⟨_, rfl, z2, lvv', z3⟩
/-- Held, by what 'held' answers at every world alike. -/
theorem heldR_gen (X : List Value) (ty gs g : Nat) (lv : Value) (n k : Nat) (w : World) (h : Rsg X ty gs g lv n w) (C : ∀ W, Below w.heap.size w W → Calls Try.prog 63 #[.pointer (some ⟨g, 0, none⟩), lv] W fun e w' => e = .returned (.int .i64 (k : Int)) ∧ Below W.heap.size W w') :
    Calls Try.prog 34 #[.pointer (some ⟨gs, 0, none⟩)] w fun e w' => e = .returned (.int .i64 (k : Int)) ∧ Below w.heap.size w w' := by
  have c0 : w.cell? ⟨gs, 0, none⟩ = some (.pointer (some ⟨g, 0, none⟩)) := (cell_of_row w gs _ _ _ _ h).trans (by simp)
  have c1 : w.cell? ⟨gs, 1, none⟩ = some lv := (cell_of_row w gs _ _ _ _ h).trans (by simp)
  have HC : Hid _ := C
  clear h C
  go_enter Try.func34, Try.ntmps34
  go_wp2_with fail
  go_region_with ((go_at_call 63; refine Calls.mono (HC.out _ (by first | exact Below.refl _ _ | exact Below.drewN' (Below.refl _ _) _ | exact Below.drewN' (Below.refl _ _) 1)) ?_; rintro e w' ⟨rfl, hb'⟩; have HB' : Hid (Below w.heap.size w w') := (Below.trans (by first | exact Below.refl _ _ | exact Below.drewN' (Below.refl _ _) _ | exact Below.drewN' (Below.refl _ _) 1) (hb'.mono (Nat.le_refl _))); clear hb'))
  all_goals
    go_wp2
    go_ret
    exact ⟨rfl, HB'.out⟩
/-- The document's Feed. -/
theorem feedD_gen (X : List Value) (ty : Nat) (l : List ByteArray) (m : Nat) (hp : Pt l m) (hnd : (l.map tl).Nodup) (gs g : Nat) (lv : Value) (fv : Nat → Value) (y p : List Nat) (hyb : Byt y) (hpb : Byt p) (hy : y.length ≤ 1125899906842624) (hpl : p.length ≤ 16777216) (lvv pv : Value) (w : World) (hne : g ≠ gs) (hs : Rsg X ty gs g lvv y.length w) (ha : Si .u8 lvv (lastN m y) w) (hpv : Si .u8 pv p w) (hR : Rf g lv fv l (fst (l.map tl)) m w) :
    Calls Try.prog 30 #[.pointer (some ⟨gs, 0, none⟩), pv] w fun e w' => ∃ v lvv', e = .returned v ∧ w'.ownsRow w.heap.size 39 2 v (hit2 (l.map tl) m y p).length (hc (hit2 (l.map tl) m y p)) ∧
      Rsg X ty gs g lvv' (y ++ p).length w' ∧ Si .u8 lvv' (lastN m (y ++ p)) w' ∧ (∀ k, lvv'.ownBlock = some k → w.heap.size ≤ k) ∧ But gs w w' := by
  have hl := lastN_len m y
  have hm1 := hp.m1
  have hb2 : Byt (lastN m y ++ p) := fun x hx => by
    rcases List.mem_append.1 hx with h | h
    · exact hyb x (List.mem_of_mem_drop h)
    · exact hpb x h
  have hlen : (lastN m y ++ p).length ≤ 1073741824 := by rw [List.length_append, hl]; omega
  have := feedR_gen X ty gs g m y.length (hts (l.map tl) m) (lastN m y) p lvv pv w hne hm1 hy (by omega) (by omega) hpl hs ha hpv hR.gz ((cell_of_row w g _ _ _ _ hR.row).trans (rfC_w _ _ _))
    (fun W v hb hv => scanR_own g lv fv l m hp.m0 hm1 hp.ln hnd _ hb2 hlen v W (hR.below hb) hv)
    (fun x hx => by
      unfold hts at hx
      obtain ⟨i, hi, hx⟩ := List.mem_flatMap.1 hx
      rw [List.mem_range] at hi
      unfold htA at hx
      by_cases h : ((lastN m y ++ p).drop i).take m ∈ l.map tl
      · rw [if_pos h, List.mem_singleton] at hx
        subst hx
        exact ⟨by simp, by simp only; omega⟩
      · rw [if_neg h] at hx; cases hx)
  rw [lastN_app] at this
  have e2 : (hit2 (l.map tl) m y p).length = (hts (l.map tl) m (lastN m y ++ p)).length := by rw [hit2, List.length_map]
  rw [e2, List.length_append]
  exact this
end Go.Proofs.Ytceaklefdahfkab
