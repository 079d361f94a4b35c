/- Graphs searched: shortest, with an end that is told by a closure over two boxes. -/
import Derived.Test.YtibhjkmbbfgnpaaJaD
namespace Go.Proofs.Ytibhjkmbbfgnpaa
open Go.RowKit GM
set_option maxRecDepth 20000
attribute [local go_sem ↓] toApI toLkS toMpS
set_option maxRecDepth 100000 in
set_option maxHeartbeats 6400000 in
theorem shortC_any (w : World) {g N a kb kc : Nat} {gv : Nat → Nat} {F : Nat → List Nat} {V : Nat → Value} (P : Nat → Bool) (ha : a < N) (hN : N ≤ 1000000) (hF : ∀ v, v < N → ∀ x ∈ F v, x < N) (hFl : ∀ v, v < N → (F v).length < 10000000)
    (ro : ∀ v, v < N → w.cell? ⟨g, v, none⟩ = some (V v) ∧ Il (gv v) (V v) (F v) w) (he : ∀ v W, v < N → Below w.heap.size w W → Calls Try.prog 44 #[.int .i64 (v : Int), .pointer (some ⟨kb, 0, none⟩), .pointer (some ⟨kc, 0, none⟩)] W fun e w' => e = .returned (.bool (P v)) ∧ Below W.heap.size W w') :
    Calls Try.prog 43 #[.int .i64 (a : Int), nOf g N, .func (.func 44) #[] #[.pointer (some ⟨kb, 0, none⟩), .pointer (some ⟨kc, 0, none⟩)]] w (ShP F a P w) := by
  have hmm : (Instr.makeMap 93 none).run Try.prog w = .ok (.map (some w.heap.size)) (w.alloc (.map #[] 0)) := run_makeMap _ _
  obtain ⟨A, hA⟩ : ∃ A, w.alloc (.map #[] 0) = A := ⟨_, rfl⟩
  have bA : Below w.heap.size w A := by rw [← hA]; exact (Below.refl _ w).alloc (Nat.le_refl _) _
  have mA : Mb A w.heap.size 0 (fun _ => none) := by rw [← hA]; exact mb_made w
  obtain ⟨A1, p1, p2, p3⟩ := mA.put a (by omega) a (by omega) (by omega)
  have bA1 : Below w.heap.size w A1 := bA.trans ((grown_frm p3).below bA.size fun k hk => by omega)
  have H0 : Hid (So w F a P w.heap.size 1 (fun v => if v = a then some a else none) [] [a] (.slice (some ⟨A1.heap.size, 0, none⟩) 1 1) (A1.alloc (.cells #[.int .i64 (a : Int)] 3))) := so_zero w F a P p2 bA1
  rw [hA] at hmm
  obtain ⟨kb0, hkb0⟩ : ∃ k, w.heap.size = k := ⟨_, rfl⟩
  rw [hkb0] at hmm p1
  have HQ := mkHid (And.intro ha (And.intro hN (And.intro hF (And.intro hFl (And.intro ro (And.intro he hkb0))))))
  clear bA mA p2 p3 bA1 ha hN hF hFl ro he hA
  have HK : Hid (∃ k, k ≤ N ∧ Rq w F a P kb0 (.slice (some ⟨A1.heap.size, 0, none⟩) 1 1) (A1.alloc (.cells #[.int .i64 (a : Int)] 3)) k) := ⟨0, Nat.zero_le _, [a], [], _, _, rfl, hkb0 ▸ H0.out⟩
  clear H0 hkb0
  unfold nOf
  go_enter Try.func43, Try.ntmps43
  go_wp2_with fail
  go_loopw [8] (fun qv wr => ∃ (o : Option Addr) (m c : Nat), qv = .slice o m c ∧ Hid (∃ k, k ≤ N ∧ Rq w F a P kb0 (.slice o m c) wr k)) (fun qv wr => msr N (fun k => Rq w F a P kb0 qv wr k))
  case atStart => exact ⟨_, 1, 1, rfl, HK⟩
  case round =>
    obtain ⟨o, m, c, rfl, HI⟩ := hrel
    obtain ⟨k, hk, ⟨Q, D, f, n, hD, hs⟩, hms⟩ := (msr_spec HI.out).1
    have hqu := hs.qu
    cases Q with
    | nil =>
      have hm : m = 0 := by
        obtain ⟨_, _, e, -⟩ := hqu
        injection e
      subst hm
      have HE := mkHid (And.intro hs.bel hs.bq.stop)
      clear hk hD hs hms hqu HI
      go_wp2_with fail
      go_ret
      exact ⟨HE.out.1, .inl ⟨rfl, HE.out.2⟩⟩
    | cons v R =>
      obtain ⟨qg, qo, c0, e, hc, c1, -⟩ := hqu.head
      injection e with e1 e2 e3
      subst e1 e3
      obtain ⟨ha, hN, hF, hFl, ro, he, hkb⟩ := HQ.out
      have hv := hs.bq.lt ha hF (v := v) (by simp)
      have hm0 : (0 : Int) < (m : Int) := by omega
      have hm1 : 0 < m := by omega
      have C := he v wr hv hs.bel
      have hlen := hs.bq.len ha hF
      have hln2 : D.length + (R.length + 1) ≤ N := hlen
      cases hP : P v with
      | true =>
        rw [hP] at C
        have HS := mkHid (And.intro hs (And.intro hv hP))
        clear hk hD hs hms hqu HI hc ha hN hF hFl ro he hkb hv hlen hln2 e2 hP
        go_wp2_with fail
        refine C.mono ?_
        rintro e w1 ⟨rfl, b1⟩
        obtain ⟨ha, hN, hF, hFl, ro, he, hkb⟩ := HQ.out
        obtain ⟨hs, hv, hP⟩ := HS.out
        have hs1 := hs.below b1
        obtain ⟨d, hd⟩ := hs.bq.ds (v := v) (by simp)
        have hdN : d < 100000000 := by
          obtain ⟨K, hK1, hK2, -⟩ := lyr_end (nd := F) (S := [a]) (N := N) (fun x hx => by rw [List.mem_singleton.1 hx]; exact ha) hF
          have := ds_lt hK2 d v hd
          omega
        have CB := back_any w1 hs1.mb hs1.bq.by1 (fun x hx => by have := hs1.bq.lt ha hF hx; omega) (t := v) (by simp) hd hdN
        have HN := mkHid (hs.bq.near hd)
        have HB := mkHid hs1.bel
        clear hs hs1 hd hdN hv ha hN hF hFl ro he hkb C b1 c1
        go_wp2_with fail
        refine CB.mono ?_
        rintro e w2 ⟨L, o2, c2, q1, rfl, q2, q3⟩
        have HR := mkHid (And.intro q1 (And.intro q2 q3))
        clear q1 q2 q3 CB
        go_wp2_with fail
        go_ret
        obtain ⟨q1, q2, q3⟩ := HR.out
        exact ⟨HB.out.trans (q3.mono HB.out.size), .inr ⟨v, d, L, o2, c2, q1, HS.out.2.2, HN.out, rfl, own_base q2 HB.out.size⟩⟩
      | false =>
        rw [hP] at C
        obtain ⟨ov, cv, eV, hvr⟩ := (ro v hv).2
        have cV := (ro v hv).1
        obtain ⟨ln, hln⟩ : ∃ n, (F v).length = n := ⟨_, rfl⟩
        rw [eV, hln] at cV
        rw [hln] at hvr
        have HS := mkHid (And.intro hs (And.intro hv (And.intro hP (And.intro hD (And.intro hms (And.intro hln2 (And.intro hln (And.intro hvr (And.intro e2 cV)))))))))
        clear hk hD hs hms hqu HI hc ha hN hF hFl ro he hkb hv hlen hln2 e2 hP eV hvr hln cV
        go_wp2_with fail
        refine C.mono ?_
        rintro e w1 ⟨rfl, b1⟩
        obtain ⟨hs, hv, hP, hD, hms, hln2, hln, hvr, e2, cV⟩ := HS.out
        have hs1 := hs.below b1
        have CO := of_cell w1 (g := g) (N := N) ((World.cell?_of_block (w := w) (a := ⟨g, v, none⟩) (hs1.bel.block g (World.block_lt_of_cell? w _ cV))).trans cV) hv
        have H1 : Hid (Si w F a P kb0 D v 0 m (.slice (some ⟨qg, qo, none⟩) m c) w1) := ⟨R, f, n, hs1, by simpa using e2.symm, fun x hx => by simp at hx⟩
        clear hs hv hP hD hms hln2 hln hvr e2 cV hs1 b1 C c1
        go_wp2_with fail
        refine CO.mono ?_
        rintro e w2 ⟨rfl, rfl⟩
        clear CO
        go_wp2_with fail
        go_loopw [39, 8] (fun iv qv wr => ∃ (i m c : Nat) (o : Option Addr), iv = .int .i64 (i : Int) ∧ qv = .slice o m c ∧ i ≤ ln ∧ Hid (Si w F a P kb0 D v i m (.slice o m c) wr)) (fun iv _ _ => ln - (intOf iv).toNat)
        case atStart => exact ⟨0, m, c, _, rfl, rfl, Nat.zero_le _, H1⟩
        case round =>
          obtain ⟨i, mj, cj, oj, rfl, rfl, hi, HJ⟩ := hrel
          by_cases hlt : i < ln
          · have i1 := ltI hlt
            have i0 := geI i
            obtain ⟨ha, hN, hF, hFl, ro, he, hkb⟩ := HQ.out
            obtain ⟨hs, hv, hP, hD, hms, hln2, hln, hvr, e2, cV⟩ := HS.out
            obtain ⟨off, rfl, hgw, hcc⟩ := hvr (Nat.lt_of_le_of_lt (Nat.zero_le _) hlt)
            obtain ⟨_, _, _, hsj, -⟩ := HJ.out.so
            obtain ⟨x, hx⟩ : ∃ x, (F v).getD i 0 = x := ⟨_, rfl⟩
            have cx : wr.cell? ⟨gv v, off + i, none⟩ = some (.int .i64 (x : Int)) := by
              rw [← hx]
              exact (World.cell?_of_block (w := w) (a := ⟨gv v, off + i, none⟩) (hsj.bel.block _ hgw)).trans (hcc i hlt)
            have hw1 := wrapI i (lt9 hlt (hln ▸ hFl v hv))
            have hst := HJ.out.step (N := N) (hln.symm ▸ hlt) ha hF hN hx
            clear ha hN hF hFl ro he hkb hs hv hP hD hms hln2 hln hvr e2 cV hgw hcc hsj hx
            rcases hst with ⟨z, r1, r2⟩ | ⟨z, r1, u1, o', c', u2, r2, r3, r4⟩
            · have HR := mkHid r2
              clear r2
              go_wp2_with fail
              exact ⟨⟨i + 1, mj, cj, oj, by simp [hw1], rfl, hlt, HR⟩, by rw [hw1]; exact measI _ _ hlt⟩
            · have HR := mkHid r4
              clear r4
              go_wp2_with fail
              exact ⟨⟨i + 1, mj + 1, c', o', by simp [hw1], rfl, hlt, HR⟩, by rw [hw1]; exact measI _ _ hlt⟩
          · have i1 := nltI hlt
            obtain rfl := eqI hi hlt
            obtain ⟨g2, off2, R2, n2, f2, rfl, hmc, hR2, hnx⟩ := by
              have := HJ.out
              rw [← HS.out.2.2.2.2.2.2.1] at this
              exact this.next HS.out.2.2.1
            have j3 : 1 ≤ mj := by rw [← hR2]; exact Nat.succ_pos _
            have j1 := oneI j3
            have j2 := leI hmc
            have HX := mkHid (And.intro hnx hR2)
            clear hnx hR2 hi
            go_wp2_with fail
            obtain ⟨hnx, hR2⟩ := HX.out
            obtain ⟨hs, hv, hP, hD, hms, hln2, -⟩ := HS.out
            have hk1 : k < N := by rw [← hD]; exact lenN hln2
            have hs' := hnx (if cj = 1 then some ⟨g2, off2, none⟩ else some ⟨g2, off2 + 1, none⟩) (fun hr => if_neg (capN hmc hR2 hr))
            have hD' : (D ++ [v]).length = k + 1 := by rw [List.length_append, hD]; rfl
            exact ⟨⟨_, _, _, rfl, k + 1, hk1, R2, D ++ [v], f2, n2, hD', hs'⟩, msr_less hms hk1 ⟨R2, D ++ [v], f2, n2, hD', hs'⟩⟩
end Go.Proofs.Ytibhjkmbbfgnpaa
