/- Graphs: the document's edges in order, none twice. -/
import Derived.Test.YtgedmfcfhdfoeaaGuB
import Derived.Deep.RegionWith
namespace Go.Proofs.Ytgedmfcfhdfoeaa
open Go.RowKit GM
theorem bkt_mem {n : Nat} {key : Nat × Nat → Nat} {E : List (Nat × Nat)} {e : Nat × Nat} (h : e ∈ bkt n key E) : e ∈ E := by
  unfold bkt at h
  rw [List.mem_flatMap] at h
  obtain ⟨k, _, h⟩ := h
  exact (List.mem_filter.1 h).1
theorem bkt_len (n : Nat) (key : Nat × Nat → Nat) (E : List (Nat × Nat)) (h : ∀ e ∈ E, key e < n) : (bkt n key E).length = E.length := by rw [← fil_end, fil_len n key E h]
theorem dd_len : ∀ (l : List (Nat × Nat)) (p : Option (Nat × Nat)), (dd p l).length ≤ l.length
  | [], _ => Nat.le_refl _
  | x :: r, p => by
    have := dd_len r (some x)
    unfold dd
    split <;> simp <;> omega
theorem dd_take (l : List (Nat × Nat)) (k : Nat) (x : Nat × Nat) (h : l[k]? = some x) : dd none (l.take (k + 1)) = dd none (l.take k) ++ (if (l.take k).getLast? = some x then [] else [x]) := by
  rw [List.take_add_one, h]
  show dd none (l.take k ++ [x]) = _
  rw [dd_snoc]
  simp
theorem take_last (l : List (Nat × Nat)) (k : Nat) (y : Nat × Nat) (h : l[k]? = some y) : (l.take (k + 1)).getLast? = some y := by
  rw [List.take_add_one, h]
  simp
attribute [local go_sem ↓] toApE toEqA
set_option maxRecDepth 100000 in
set_option maxHeartbeats 2000000 in
theorem normed_any (n : Nat) (hn : n ≤ 8192) (F : List (Nat × Nat)) (hF : ∀ e ∈ F, e.1 < n ∧ e.2 < n) (hl : F.length ≤ 1073741824) (v : Value) (w : World) (hv : El v (zE F) w) :
    Calls Try.prog 38 #[grV (n : Int) v] w fun e w' => ∃ u, e = .returned (grV (n : Int) u) ∧ El u (zE (nrm n F)) w' ∧ Below w.heap.size w w' ∧ ∀ q, u.ownBlock = some q → w.heap.size + 2 ≤ q := by
  unfold grV
  obtain ⟨oo, cc, hvv, -, -⟩ := hv.form
  obtain ⟨W0, hW0⟩ : ∃ W0, (w.alloc (.cells #[.int .i64 (n : Int), v] 24)).alloc (.cells #[.int .i64 0, .slice none 0 0] 24) = W0 := ⟨_, rfl⟩
  have b0 : Below w.heap.size w W0 := by rw [← hW0]; exact ((Below.refl _ w).alloc (Nat.le_refl _) _).alloc (by simp) _
  have r0 : W0.heap[w.heap.size]? = some (.cells #[.int .i64 (n : Int), v] 24 (0, 0)) := by rw [← hW0]; exact heap_alloc2_old _ _ _
  have r1 : W0.heap[w.heap.size + 1]? = some (.cells #[.int .i64 0, .slice none 0 0] 24 (0, 0)) := by rw [← hW0]; exact heap_alloc2_new _ _ _
  have HP : Hid (∀ X, Below W0.heap.size W0 X → X.cell? ⟨w.heap.size, 0, none⟩ = some (.int .i64 (n : Int)) ∧ X.cell? ⟨w.heap.size, 1, none⟩ = some v ∧ X.heap[w.heap.size + 1]? = some (.cells #[.int .i64 0, .slice none 0 0] 24 (0, 0)) ∧ Below w.heap.size w X) := fun X h => by
    have l0 := (Array.getElem?_eq_some_iff.1 r0).1
    have l1 := (Array.getElem?_eq_some_iff.1 r1).1
    have e := (h.block _ l0).trans r0
    exact ⟨(cell_of_row _ _ _ _ _ _ e).trans rfl, (cell_of_row _ _ _ _ _ _ e).trans rfl, (h.block _ l1).trans r1, b0.trans (h.mono b0.size)⟩
  have HZ0 : Hid (w.heap.size + 2 ≤ W0.heap.size) := (Array.getElem?_eq_some_iff.1 r1).1
  have HC1 : Hid (∀ X, Below W0.heap.size W0 X → Calls Try.prog 68 #[.int .i64 (n : Int), v, .int .i64 1] X fun e w' => ∃ u, e = .returned u ∧ El u (zE (bkt n Prod.snd F)) w' ∧ Below X.heap.size X w') := fun X h => by
    have := sorted_any n hn 1 (by omega) Prod.snd (fun x y => rfl) F (fun e he => (hF e he).2) hl v X (hv.below (b0.trans (h.mono b0.size)))
    exact this.mono fun e w' ⟨u, h1, h2, h3, _⟩ => ⟨u, h1, h2, h3⟩
  have HC2 : Hid (∀ X u, El u (zE (bkt n Prod.snd F)) X → Calls Try.prog 68 #[.int .i64 (n : Int), u, .int .i64 0] X fun e w' => ∃ u', e = .returned u' ∧ El u' (zE (bkt n Prod.fst (bkt n Prod.snd F))) w' ∧ Below X.heap.size X w') := fun X u hu => by
    have := sorted_any n hn 0 (by omega) Prod.fst (fun x y => rfl) (bkt n Prod.snd F) (fun e he => (hF e (bkt_mem he)).1) (by rw [bkt_len n _ F (fun e he => (hF e he).2)]; exact hl) u X hu
    exact this.mono fun e w' ⟨u', h1, h2, h3, _⟩ => ⟨u', h1, h2, h3⟩
  have HLS : Hid ((bkt n Prod.fst (bkt n Prod.snd F)).length ≤ 1073741824 ∧ dd none (bkt n Prod.fst (bkt n Prod.snd F)) = nrm n F) := by
    refine ⟨?_, dd_bkt n F⟩
    rw [bkt_len n _ _ (fun e he => (hF e (bkt_mem he)).1), bkt_len n _ F (fun e he => (hF e he).2)]
    exact hl
  have HW0 : Hid ((w.alloc (.cells #[.int .i64 (n : Int), v] 24)).alloc (.cells #[.int .i64 0, .slice none 0 0] 24) = W0) := hW0
  have HVV : Hid (v = .slice oo (zE F).length cc) := hvv
  clear hvv hW0 b0 r0 r1 hv hF hl hn
  generalize bkt n Prod.fst (bkt n Prod.snd F) = Ls at HC2 HLS
  generalize bkt n Prod.snd F = Ms at HC1 HC2
  go_enter Try.func38, Try.ntmps38
  go_upto_region 1 with fail
  rw [HW0.out]
  go_cut [3] (fun s3 wc => ∃ o c, s3 = .slice o Ls.length c ∧ Hid (El s3 (zE Ls) wc ∧ Below W0.heap.size W0 wc))
  case first =>
    have HD : Hid (Below W0.heap.size W0 W0.drew) := below_drew W0
    obtain ⟨a0, a1, -, -⟩ := HP.out W0 (Below.refl _ _)
    go_region_with (first
      | (go_at_call 68; refine (HC2.out _ _ HB1.out.2).mono ?_; rintro e W2 ⟨u2, rfl, e2, b2⟩; obtain ⟨o2, c2, hu2, -, -⟩ := e2.form; rw [zE_len] at hu2; have HF2 : Hid (El u2 (zE Ls) W2 ∧ Below W0.heap.size W0 W2) := ⟨e2, HB1.out.1.trans (b2.mono HB1.out.1.size)⟩; obtain ⟨y0, y1, -, -⟩ := HP.out W2 HF2.out.2; clear e2 b2)
      | (go_at_call 68; refine (HC1.out W0.drew HD.out).mono ?_; rintro e W1 ⟨u1, rfl, e1, b1⟩; have HB1 : Hid (Below W0.heap.size W0 W1 ∧ El u1 (zE Ms) W1) := ⟨HD.out.trans (b1.mono HD.out.size), e1⟩; obtain ⟨x0, x1, -, -⟩ := HP.out W1 HB1.out.1; clear e1 b1))
    all_goals (go_wp2_with fail; go_meet; exact ⟨_, _, rfl, by have := HF2; rw [hu2] at this; exact this⟩)
  case rest =>
    obtain ⟨o, c, rfl, HR⟩ := hcut
    have HB0 : Hid (wc.ownsRow wc.heap.size 52 2 (.slice none 0 0) (dd none (Ls.take 0)).length (ec (zE (dd none (Ls.take 0)))) ∧ Below wc.heap.size wc wc) := by
      refine ⟨?_, Below.refl _ _⟩
      exact World.ownsRow_nil _ _ _ _
    clear HC1 HC2
    go_wp2_with fail
    go_loopw [4, 5] (fun ov i wr => ∃ k : Nat, i = .int .i64 (k : Int) ∧ k ≤ Ls.length ∧ Hid (wr.ownsRow wc.heap.size 52 2 ov (dd none (Ls.take k)).length (ec (zE (dd none (Ls.take k)))) ∧ Below wc.heap.size wc wr)) (fun _ i _ => Ls.length - (intOf i).toNat)
    case atStart => exact ⟨0, rfl, Nat.zero_le _, HB0⟩
    case round =>
      clear HB0
      obtain ⟨k, rfl, hk, HI⟩ := hrel
      obtain ⟨ov, cv, hov⟩ := own_size HI.out.1
      subst hov
      obtain ⟨m, hm⟩ : ∃ m, m = (dd none (Ls.take k)).length := ⟨_, rfl⟩
      rw [← hm] at HI ⊢
      have HEl : Hid (El (.slice o Ls.length c) (zE Ls) wr) := HR.out.1.below HI.out.2
      by_cases hlt : k < Ls.length
      · have hk1 : (k : Int) < (Ls.length : Int) := by omega
        have hk0 : (0 : Int) ≤ (k : Int) := by omega
        obtain ⟨x, y, hxy⟩ : ∃ x y, Ls[k]? = some (x, y) := ⟨_, _, List.getElem?_eq_getElem hlt⟩
        obtain ⟨o', c', h1, -, h3⟩ := HEl.out.form
        rw [zE_len] at h1 h3
        simp only [Value.slice.injEq, true_and] at h1
        obtain ⟨rfl, rfl⟩ := h1
        obtain ⟨b, off, rfl, hb, hc⟩ := h3 (by omega)
        have c1 := (hc k hlt).1
        have c2 := (hc k hlt).2
        rw [zE_get Ls k x y hxy] at c1 c2
        have c1' : wr.cell? ⟨b, off + k * 2, none⟩ = some (.int .i64 (x : Int)) := c1
        have c2' : wr.cell? ⟨b, off + k * 2 + 1, none⟩ = some (.int .i64 (y : Int)) := c2
        have HM : Hid (m ≤ k ∧ k < Ls.length ∧ Ls.length ≤ 1073741824) := by
          have h1 := dd_len (Ls.take k) none
          rw [List.length_take] at h1
          exact ⟨by omega, hlt, HLS.out.1⟩
        have HA : Hid (∀ nq, ∃ o3 c3 W2, (apE 22 #[.slice ov m cv, .slice (some ⟨wr.heap.size, 0, none⟩) 1 1]).run Try.prog ((wr.drewN nq).alloc (.cells #[.int .i64 (x : Int), .int .i64 (y : Int)] 52)) = .ok (.slice o3 (m + 1) c3) W2 ∧ W2.ownsRow wc.heap.size 52 2 (.slice o3 (m + 1) c3) (m + 1) (ec (zE (dd none (Ls.take k) ++ [(x, y)]))) ∧ Below wc.heap.size wc W2) := fun nq => by
          have hO : (wr.drewN nq).ownsRow wc.heap.size 52 2 (.slice ov m cv) m (ec (zE (dd none (Ls.take k)))) := own_keep2 HI.out.1 fun _ _ => rfl
          have hB : Below wc.heap.size wc (wr.drewN nq) := Below.drewN' HI.out.2 nq
          obtain ⟨v', W2, hr, ho, hg⟩ := run_apE1 (wr.drewN nq) wc.heap.size m 22 _ _ (x : Int) (y : Int) hO (by have := HM.out; omega) hB.size
          obtain ⟨o3, c3, rfl⟩ := own_size ho
          refine ⟨o3, c3, W2, hr, by rw [zE_snoc]; exact ho, ?_⟩
          have bl := below_grown ((Below.refl _ (wr.drewN nq)).alloc (B := wc.heap.size) hB.size (.cells #[.int .i64 (x : Int), .int .i64 (y : Int)] 52)) hg (by have := HI.out.2.size; simp; omega) (fun g e => (hO.lt g e).1)
          exact hB.trans bl
        have HDD : Hid (dd none (Ls.take (k + 1)) = dd none (Ls.take k) ++ (if (Ls.take k).getLast? = some (x, y) then [] else [(x, y)])) := dd_take Ls k (x, y) hxy
        have HMM : Hid (m = (dd none (Ls.take k)).length) := hm
        by_cases hkz : k = 0
        · subst hkz
          have HND : Hid (dd none (Ls.take (0 + 1)) = dd none (Ls.take 0) ++ [(x, y)]) := by
            have := HDD.out
            rw [if_neg (by simp)] at this
            exact this
          have d1 : wr.cell? ⟨b, off, none⟩ = some (.int .i64 (x : Int)) := by simpa using c1'
          have d2 : wr.cell? ⟨b, off + 1, none⟩ = some (.int .i64 (y : Int)) := by simpa using c2'
          clear hm hlt hk HI h3 hc c1 c2 hxy HEl hb c1' c2'
          go_wp2_with fail
          go_quiet (fail)
          obtain ⟨o3, c3, W2, sA, oA, bA⟩ := HA.out nq
          have HNEW : Hid (W2.ownsRow wc.heap.size 52 2 (.slice o3 (m + 1) c3) (dd none (Ls.take (0 + 1))).length (ec (zE (dd none (Ls.take (0 + 1))))) ∧ Below wc.heap.size wc W2) := by
            show _ ∧ _
            rw [HND.out, List.length_append, List.length_singleton, ← HMM.out]
            exact ⟨oA, bA⟩
          clear oA bA
          go_wp2
          go_roundw
          case rel => exact ⟨0 + 1, rfl, by have := HM.out; omega, HNEW⟩
          case measure => have := HM.out; simp only [intOf]; omega
        · obtain ⟨k0, hk0e⟩ : ∃ k0, k = k0 + 1 := ⟨k - 1, by omega⟩
          obtain ⟨x0, y0, hxy0⟩ : ∃ x y, Ls[k0]? = some (x, y) := ⟨_, _, List.getElem?_eq_getElem (by omega)⟩
          have d1 := (hc k0 (by omega)).1
          have d2 := (hc k0 (by omega)).2
          rw [zE_get Ls k0 x0 y0 hxy0] at d1 d2
          have d1' : wr.cell? ⟨b, off + k0 * 2, none⟩ = some (.int .i64 (x0 : Int)) := d1
          have d2' : wr.cell? ⟨b, off + k0 * 2 + 1, none⟩ = some (.int .i64 (y0 : Int)) := d2
          have e1 : ((k : Int) == 0) = false := by simpa using hkz
          have e1' : decide ((k : Int) = 0) = false := by simpa using hkz
          have e2 : IntKind.i64.wrap ((k : Int) - 1) = (k0 : Int) := by rw [wi _ (by unfold I64; have := HM.out; omega)]; omega
          have e3 : (0 : Int) ≤ (k0 : Int) := by omega
          have e4 : (k0 : Int) < (Ls.length : Int) := by omega
          have HLST : Hid ((Ls.take k).getLast? = some (x0, y0)) := by show _ = _; rw [hk0e]; exact take_last Ls k0 (x0, y0) hxy0
          have he := fun X : World => run_eqA X (x : Int) (y : Int) (x0 : Int) (y0 : Int)
          by_cases hsame : (x0, y0) = (x, y)
          · have hs1 : x0 = x := congrArg Prod.fst hsame
            have hs2 : y0 = y := congrArg Prod.snd hsame
            subst hs1
            subst hs2
            rw [decide_eq_true ⟨rfl, rfl⟩] at he
            have HNEW : Hid (∀ nq, (wr.drewN nq).ownsRow wc.heap.size 52 2 (.slice ov m cv) (dd none (Ls.take (k + 1))).length (ec (zE (dd none (Ls.take (k + 1))))) ∧ Below wc.heap.size wc (wr.drewN nq)) := fun nq => by
              rw [HDD.out, if_pos HLST.out, List.append_nil, ← HMM.out]
              exact ⟨own_keep2 HI.out.1 fun _ _ => rfl, Below.drewN' HI.out.2 nq⟩
            have HJ : Hid (k < Ls.length ∧ k ≤ 1073741824) := ⟨hlt, by have := HM.out; omega⟩
            clear hm hlt hk HI h3 hc c1 c2 d1 d2 hxy hxy0 HEl hb hkz hk0e hsame HM
            go_wp2_with fail
            go_quiet (fail)
            clear c1' c2' d1' d2' e1 e1' e2 e3 e4 he hk1 hk0
            have hk2 : (k : Int) + 1 < 9223372036854775808 := by have := HJ.out; omega
            go_wp2
            go_roundw
            case rel => exact ⟨k + 1, rfl, HJ.out.1, HNEW.out nq⟩
            case measure => have := HJ.out; simp only [intOf]; omega
          · have hne : decide ((x : Int) = (x0 : Int) ∧ (y : Int) = (y0 : Int)) = false := decide_eq_false (fun h => hsame (by obtain ⟨h1, h2⟩ := h; rw [Prod.mk.injEq]; omega))
            rw [hne] at he
            have HND : Hid (dd none (Ls.take (k + 1)) = dd none (Ls.take k) ++ [(x, y)]) := by
              have := HDD.out
              rw [HLST.out, if_neg (fun h => hsame (Option.some.inj h))] at this
              exact this
            have HJ : Hid (k < Ls.length ∧ k ≤ 1073741824) := ⟨hlt, by have := HM.out; omega⟩
            clear hm hlt hk HI h3 hc c1 c2 d1 d2 hxy hxy0 HEl hb hkz hk0e hsame HM hne
            go_wp2_with fail
            go_quiet (fail)
            obtain ⟨o3, c3, W2, sA, oA, bA⟩ := HA.out nq
            have HNEW : Hid (W2.ownsRow wc.heap.size 52 2 (.slice o3 (m + 1) c3) (dd none (Ls.take (k + 1))).length (ec (zE (dd none (Ls.take (k + 1))))) ∧ Below wc.heap.size wc W2) := by
              show _ ∧ _
              rw [HND.out, List.length_append, List.length_singleton, ← HMM.out]
              exact ⟨oA, bA⟩
            clear oA bA d1' d2' e1 e1' e2 e3 e4 he
            go_upto_region 5 with fail
            clear c1' c2' sA hk1 hk0
            have hk2 : (k : Int) + 1 < 9223372036854775808 := by have := HJ.out; omega
            go_wp2
            go_roundw
            case rel => exact ⟨k + 1, rfl, HJ.out.1, HNEW⟩
            case measure => have := HJ.out; simp only [intOf]; omega
      · have hk1 : ¬ ((k : Int) < (Ls.length : Int)) := by omega
        have HBW : Hid (Below W0.heap.size W0 wr) := HR.out.2.trans (HI.out.2.mono HR.out.2.size)
        obtain ⟨p0, -, p2, p3⟩ := HP.out wr HBW.out
        have HFIN : Hid (wr.ownsRow wc.heap.size 52 2 (.slice ov m cv) m (ec (zE (nrm n F))) ∧ wr.heap[w.heap.size + 1]? = some (.cells #[.int .i64 0, .slice none 0 0] 24 (0, 0)) ∧ Below w.heap.size w wr ∧ w.heap.size + 2 ≤ wc.heap.size) := by
          have h := HI.out.1
          rw [show k = Ls.length by omega, List.take_length, HLS.out.2] at h
          exact ⟨h, p2, p3, by have := HR.out.2.size; have := HZ0.out; omega⟩
        have z0 : wr.cell? ⟨w.heap.size + 1, 0, none⟩ = some (.int .i64 0) := (cell_of_row _ _ _ _ _ _ p2).trans rfl
        have z1 : wr.cell? ⟨w.heap.size + 1, 1, none⟩ = some (.slice none 0 0) := (cell_of_row _ _ _ _ _ _ p2).trans rfl
        have f0 : wr.frozen? ⟨w.heap.size + 1, 0, none⟩ = false := frozen_of_row _ _ _ _ _ p2
        have f1 : wr.frozen? ⟨w.heap.size + 1, 1, none⟩ = false := frozen_of_row _ _ _ _ _ p2
        clear hm hk HI HEl p2 p3 hlt
        go_wp2_with fail
        have HK : Hid (∀ q, (Value.slice ov m cv).ownBlock = some q → w.heap.size + 2 ≤ q) := fun q hq => by have := (HFIN.out.1.lt q hq).1; have := HFIN.out.2.2.2; omega
        refine bodyPost_ret (results_G rfl _ _ (w.heap.size + 1) (.int .i64 (n : Int)) (.slice ov m cv) rfl (set2G _ _ HFIN.out.2.1)) rfl ⟨_, rfl, ?_, ?_, HK.out⟩
        · exact (el_own (own_keep2 HFIN.out.1 fun q hq => set2_other _ _ q (by have := HK.out q hq; omega))).2
        · exact below_set2 _ _ (Nat.le_succ _) HFIN.out.2.2.1
end Go.Proofs.Ytgedmfcfhdfoeaa
