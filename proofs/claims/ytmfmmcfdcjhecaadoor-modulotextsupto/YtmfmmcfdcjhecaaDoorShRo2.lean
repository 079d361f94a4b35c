/- The document's own sum of a message: whole. -/
import Derived.Test.YtmfmmcfdcjhecaaDoorShRo1
namespace Go.Proofs.YtmfmmcfdcjhecaaDoor.Sha
open Go.RowKit
attribute [local go_sem ↓] to74l to81l to74s toSl
set_option maxRecDepth 100000 in
set_option maxHeartbeats 4000000 in
theorem ofR_any (ks sn : List Nat) (hsn : sn.length = 8) (hsnw : Wrd sn) (hksl : ks.length = 64) (hkw : Wrd ks) (d : List Nat) (hdl : d.length ≤ 140737488351232) (hdb : Byt d) (v : Value) (w : World) (hv : YtmfmmcfdcjhecaaDoor.Byl v d w) (t3 t4 : Nat) (f3 f4 : Nat × Nat)
    (h3 : Hid (w.heap[1]? = some (.cells (ws sn) t3 f3))) (h4 : Hid (w.heap[2]? = some (.cells (ws ks) t4 f4))) :
    Calls Tryd.prog 14 #[v] w fun e w' => e = .returned (.agg (bs (shaN ks sn d))) ∧ Below w.heap.size w w' := by
  have hs4 : 2 < w.heap.size := (Array.getElem?_eq_some_iff.1 h4.out).1
  obtain ⟨G, hG⟩ : ∃ G, G = w.heap.size := ⟨_, rfl⟩
  obtain ⟨o, c, rfl, _, _, _⟩ := hv.form
  have hdl' : ¬ ((1152921504606846976 : Int) < (d.length : Int)) := by omega
  have two : ∀ X Y : Obj, Below w.heap.size w ((w.alloc X).alloc Y) := fun X Y => ((Below.refl _ w).alloc (Nat.le_refl _) _).alloc (by simp) _
  have HV : Hid (YtmfmmcfdcjhecaaDoor.Byl (.slice o d.length c) d w) := hv
  clear hv
  go_enter Tryd.func14, Tryd.ntmps14
  go_wp2_with (refine wpList_load_row rfl 45 _ rfl _ rfl t3 _ f3 _ (by exact ((two _ _).block 1 (by omega)).trans h3.out) Tryd.underlying45 rfl (by rw [size74, ws_size, hsn]) ?_)
  rw [run_store74' _ _ _ sn (alloc_at _ _ _ (by simp)) rfl hsn]
  generalize hW : World.setRow (World.alloc (World.alloc (World.alloc w _) _) _) _ (ws sn) = W1
  have bel1 : Below w.heap.size w W1 := by rw [← hW]; exact below_setRow ((two _ _).alloc (by simp <;> omega) _) (by omega) _
  have e0 : Hid (W1.heap[w.heap.size]? = some (.cells (bs z32) 23 (0, 0))) := by rw [← hW]; exact (setRow_other _ _ _ _ (by omega)).trans ((heap_alloc_old _ _ (h := by simp <;> omega)).trans (heap_alloc2_old _ _ _))
  have e1 : Hid (W1.heap[w.heap.size + 1]? = some (.cells (bs z32) 23 (0, 0))) := by rw [← hW]; exact (setRow_other _ _ _ _ (by omega)).trans ((heap_alloc_old _ _ (h := by simp <;> omega)).trans (heap_alloc2_new _ _ _))
  have e2 : Hid (W1.heap[w.heap.size + 1 + 1]? = some (.cells (ws sn) 45 (0, 0))) := by rw [← hW]; exact setRow_heap _ _ _ _ _ _ (alloc_at _ _ _ (by simp))
  have s1 : W1.heap.size = w.heap.size + 3 := by rw [← hW]; simp
  have S1 : Hid (W1.heap.size = w.heap.size + 3) := s1
  clear hW two s1
  go_wp2_with fail
  refine (pad57 d hdl _ W1 (HV.out.below bel1)).mono ?_
  rintro e W2 ⟨x, rfl, b2, ho⟩
  obtain ⟨g, cx, rfl, hg1, hg2, hc1, hc2, hF⟩ := fst_own ho (by rw [padM_len]; omega)
  have hpl := padM_len d
  have hpm := padM_mod d
  have hpb := padM_byt d hdb
  obtain ⟨M, hM⟩ : ∃ M, M = padM d := ⟨_, rfl⟩
  rw [← hM] at hpl hpm hpb hc1 hF ⊢
  have HM : Hid (M = padM d) := hM
  obtain ⟨L, hL⟩ : ∃ L, L = M.length := ⟨_, rfl⟩
  have HL : Hid (L = M.length) := hL
  rw [← hL] at hpl hpm hc1 ⊢
  have HF : Hid (Fst g M W2) := hF
  have bel2 : Below w.heap.size w W2 := bel1.trans (b2.mono (by have := S1.out; omega))
  have e0' : Hid (W2.heap[w.heap.size]? = some (.cells (bs z32) 23 (0, 0))) := (b2.block _ (by have := S1.out; omega)).trans e0.out
  have e1' : Hid (W2.heap[w.heap.size + 1]? = some (.cells (bs z32) 23 (0, 0))) := (b2.block _ (by have := S1.out; omega)).trans e1.out
  have e2' : Hid (W2.heap[w.heap.size + 1 + 1]? = some (.cells (ws (absN ks sn M 0)) 45 (0, 0))) := (b2.block _ (by have := S1.out; omega)).trans e2.out
  have e4' : Hid (W2.heap[2]? = some (.cells (ws ks) t4 f4)) := (bel2.block 2 hs4).trans h4.out
  have hg : w.heap.size + 3 ≤ g := by have := S1.out; omega
  have hc2' : cx ≤ 9223372036854775807 := by unfold maxLen at hc2; omega
  have hL2 : L ≤ 140737488355328 := by omega
  clear b2 ho hF e0 e1 e2 bel1 hM hL hg1 hpl S1 hc2 hdl'
  go_wp2_with fail
  go_loopw [6] (fun i wr => ∃ k : Nat, 64 * k ≤ L ∧ i = .int .i64 ((64 * k : Nat) : Int) ∧ Hid (wr.heap[w.heap.size + 1 + 1]? = some (.cells (ws (absN ks sn M k)) 45 (0, 0))) ∧ Hid (∀ j, j < W2.heap.size → j ≠ w.heap.size + 1 + 1 → wr.heap[j]? = W2.heap[j]?) ∧ Below w.heap.size w wr) (fun i _ => L - (intOf i).toNat)
  case atStart => exact ⟨0, by omega, rfl, e2', fun _ _ _ => rfl, bel2⟩
  case round =>
    obtain ⟨k, hk, rfl, HS, HZ, hbl⟩ := hrel
    obtain ⟨S, hS⟩ : ∃ S, S = absN ks sn M k := ⟨_, rfl⟩
    have hSl : S.length = 8 := by rw [hS]; exact absN_len _ _ _ hsn _
    have hSw : Wrd S := by rw [hS]; exact absN_wrd _ _ _ hsnw _
    rw [← hS] at HS
    have HSS : Hid (S = absN ks sn M k) := hS
    clear hS
    by_cases hlt : 64 * k < L
    · have hlt' : ((64 * k : Nat) : Int) < (L : Int) := by omega
      have h64 : 64 * k + 64 ≤ L := by omega
      obtain ⟨I, hI⟩ : ∃ I, I = 64 * k := ⟨_, rfl⟩
      rw [← hI]
      rw [← hI] at h64 hlt hlt' hk
      have HI : Hid (I = 64 * k) := hI
      have hIL : (I : Int) < (L : Int) := by omega
      have hcut : ∀ W, (slR (.slice (some ⟨g, 0, none⟩) L cx) (some (.int .i64 (I : Int))) (some (.int .i64 ((I : Int) + 64))) none).run Tryd.prog W = .ok (.slice (some ⟨g, I, none⟩) 64 (cx - I)) W := fun W => by
        have := run_cut_lh W g L cx I (I + 64) (by omega) (by omega) (by omega)
        rw [show I + 64 - I = 64 by omega] at this
        exact this
      have hld74 : ∀ W : World, W.heap[w.heap.size + 1 + 1]? = some (.cells (ws S) 45 (0, 0)) → (loadR 45 (.pointer (some ⟨w.heap.size + 1 + 1, 0, none⟩))).run Tryd.prog W = .ok (.agg (ws S)) W := fun W h => run_load74 W _ _ _ S h hSl
      have hld81 : ∀ W : World, W.heap[2]? = some (.cells (ws ks) t4 f4) → (loadR 48 (.pointer (some ⟨2, 0, none⟩))).run Tryd.prog W = .ok (.agg (ws ks)) W := fun W h => run_load81 W _ _ _ ks h hksl
      have w74 : wr.heap[w.heap.size + 1 + 1]? = some (.cells (ws S) 45 (0, 0)) := HS.out
      have w81 : wr.heap[2]? = some (.cells (ws ks) t4 f4) := (HZ.out 2 (by have := bel2.size; omega) (by omega)).trans e4'.out
      have d74 : wr.drew.heap[w.heap.size + 1 + 1]? = some (.cells (ws S) 45 (0, 0)) := HS.out
      have d81 : wr.drew.heap[2]? = some (.cells (ws ks) t4 f4) := w81
      obtain ⟨S2, hS2⟩ : ∃ S2, S2 = absN ks sn M (k + 1) := ⟨_, rfl⟩
      have hS2l : S2.length = 8 := by rw [hS2]; exact absN_len _ _ _ hsn _
      have HS2 : Hid (S2 = absN ks sn M (k + 1)) := hS2
      have hgl : g < W2.heap.size := hg2
      have HC : Hid (∀ W' : World, W'.heap = wr.heap → Calls Tryd.prog 23 #[.agg (ws S), .slice (some ⟨g, I, none⟩) 64 (cx - I), .agg (ws ks)] W' fun e w' => e = .returned (.agg (ws S2)) ∧ Below W'.heap.size W' w' ∧ (storeR 45 (.pointer (some ⟨w.heap.size + 1 + 1, 0, none⟩)) (.agg (ws S2))).run Tryd.prog w' = .ok () (w'.setRow (w.heap.size + 1 + 1) (ws S2)) ∧ (storeR 45 (.pointer (some ⟨w.heap.size + 1 + 1, 0, none⟩)) (.agg (ws S2))).run Tryd.prog w'.drew = .ok () (w'.drew.setRow (w.heap.size + 1 + 1) (ws S2)) ∧ Hid (w'.heap[w.heap.size + 1 + 1]? = some (.cells (ws S) 45 (0, 0)))) := by
        intro W' hW'
        have hgw : W'.heap[g]? = W2.heap[g]? := by rw [hW']; exact HZ.out g hgl (by omega)
        have hsz2 : W2.heap.size ≤ W'.heap.size := by
          rw [hW']
          have := (HZ.out (W2.heap.size - 1) (by omega) (by omega))
          have h2 : (W2.heap.size - 1) < W2.heap.size := by omega
          rw [Array.getElem?_eq_getElem h2] at this
          have := (Array.getElem?_eq_some_iff.1 this).1
          omega
        have hrow : W'.heap[w.heap.size + 1 + 1]? = some (.cells (ws S) 45 (0, 0)) := by rw [hW']; exact HS.out
        refine (block_any ks S ((M.drop (64 * k)).take 64) hSl hSw hksl hkw (byt_blk hpb k) g I (cx - I) W' (by omega) (fun j hj => ?_)).mono ?_
        · obtain ⟨cur, h1, h2⟩ := HF.out
          rw [cell_of_row W' _ _ _ _ _ (hgw.trans h1), blk_get _ _ _ hj, HI.out]
          exact h2 _ (by have := HL.out; have := HI.out; omega)
        · rintro e w' ⟨rfl, hb'⟩
          have hr' : w'.heap[w.heap.size + 1 + 1]? = some (.cells (ws S) 45 (0, 0)) := (hb'.block _ (by omega)).trans hrow
          refine ⟨by rw [hS2, absN, ← HSS.out], hb', run_store74 w' _ S S2 hr' hSl hS2l, run_store74 w'.drew _ S S2 hr' hSl hS2l, hr'⟩
      have hbz := hbl.size
      have hzz : W2.heap.size ≤ wr.heap.size := by
        have := (HZ.out (W2.heap.size - 1) (by omega) (by omega))
        have h2 : (W2.heap.size - 1) < W2.heap.size := by omega
        rw [Array.getElem?_eq_getElem h2] at this
        have := (Array.getElem?_eq_some_iff.1 this).1
        omega
      have HZZ : Hid (W2.heap.size ≤ wr.heap.size) := hzz
      have hwI : IntKind.i64.wrap ((I : Int) + 64) = (I : Int) + 64 := by rw [IntKind.wrap_i64]; omega
      clear hI hS2 hgl hzz hbz
      go_wp2
      go_region_with (go_at_call 23; refine (HC.out _ (by rfl)).mono ?_; rintro e w' ⟨rfl, hb', hst1, hst2, hrw⟩)
      all_goals
        go_wp2
        go_roundw
        case rel =>
          refine ⟨k + 1, by have := HI.out; omega, by rw [HI.out]; go_num, ?_, ?_, ?_⟩
          · show _ = _
            rw [← HS2.out]
            exact setRow_heap _ _ _ _ _ _ hrw.out
          · intro j hj hne
            exact (setRow_other _ _ _ _ hne).trans ((hb'.block j (by have := HZZ.out; show j < wr.heap.size; omega)).trans (HZ.out j hj hne))
          · have hb2 : Below w.heap.size w w' := hbl.drew.trans (hb'.mono (by show w.heap.size ≤ wr.heap.size; have := hbl.size; omega))
            first | exact below_setRow hb2 (by omega) _ | exact below_setRow hb2.drew (by omega) _ | exact (below_setRow hb2 (by omega) _).drew
        case measure => simp [intOf]; omega
    · have hge : ¬ (((64 * k : Nat) : Int) < (L : Int)) := by omega
      have hkL : k = L / 64 := by omega
      have hSS : Hid (sumS S = shaN ks sn d) := by
        show _ = _
        rw [HSS.out, hkL, HL.out, HM.out]
        exact sha_ref ks sn d
      have x0 : Hid (wr.heap[w.heap.size]? = some (.cells (bs z32) 23 (0, 0))) := (HZ.out _ (by have := bel2.size; omega) (by omega)).trans e0'.out
      have x1 : Hid (wr.heap[w.heap.size + 1]? = some (.cells (bs (outk S 0)) 23 (0, 0))) := (HZ.out _ (by omega) (by omega)).trans e1'.out
      clear HSS hkL e0' e1' e2' e4' HZ HF
      have hkL2 : 64 * k = L := by omega
      rw [hkL2]
      clear hge hk hkL2 hlt hpm
      rename_i K hKK
      have HT : Hid (∀ a w, Code.wp Tryd.prog tail33 _ a w → K a w) := hKK
      clear hKK
      go_wp2
      refine HT.out _ _ ?_
      refine tailO S hSl hSw w.heap.size _ _ _ _ _ _ _ _ _ _ _ _ _ _ _ _ _ _ _ _ _ _ _ _ _ _ _ _ _ _ _ _ _ _ _ _ _ _ _ _ _ _ _ _ wr x0 x1 HS _ ?_
      intro w' hb'
      exact ⟨by rw [hSS.out], hbl.trans hb'⟩
end Go.Proofs.YtmfmmcfdcjhecaaDoor.Sha
