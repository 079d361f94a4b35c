/- The reference's ParseBase of any text. -/
import Derived.Test.YtmfkhpledgnipaaDoorRefUn
import Derived.Laws.CopyRow
namespace Go.Proofs.YtmfkhpledgnipaaDoor
open Go.RowKit
theorem unk_first (d : ByteArray) (k : Nat) (hk : k < d.size) (h0 : kn 32 (byt d k) = 0) : ∀ f i, i ≤ k → k < i + f → (∀ j, i ≤ j → j < k → ¬ kn 32 (byt d j) = 0) → unk d f i = some k
  | 0, i, h1, h2, _ => by omega
  | f + 1, i, h1, h2, h3 => by
    unfold unk
    rw [if_pos (by omega)]
    by_cases hik : i = k
    · rw [hik, if_pos h0]
    · rw [if_neg (h3 i (Nat.le_refl _) (by omega))]
      exact unk_first d k hk h0 f (i + 1) (by omega) (by omega) fun j hj hj2 => h3 j (by omega) hj2
theorem unk_no (d : ByteArray) : ∀ f i, (∀ j, i ≤ j → j < d.size → ¬ kn 32 (byt d j) = 0) → unk d f i = none
  | 0, i, _ => rfl
  | f + 1, i, h => by
    unfold unk
    by_cases hi : i < d.size
    · rw [if_pos hi, if_neg (h i (Nat.le_refl _) hi)]
      exact unk_no d f (i + 1) fun j hj hj2 => h j (by omega) hj2
    · rw [if_neg hi]
theorem unE_at (d : ByteArray) (k : Nat) (hk : k < d.size) (h0 : kn 32 (byt d k) = 0) (h : ∀ j, j < k → ¬ kn 32 (byt d j) = 0) : unE d = (10, k) := by
  have : fuN d = k := by unfold fuN; rw [unk_first d k hk h0 d.size 0 (by omega) (by omega) fun j _ hj => h j hj]; rfl
  unfold unE
  rw [this, if_pos hk]
theorem unE_not (d : ByteArray) (h : ∀ j, j < d.size → ¬ kn 32 (byt d j) = 0) : ¬ (unE d).1 = 10 := by
  have : fuN d = d.size := by unfold fuN; rw [unk_no d d.size 0 fun j _ hj => h j hj]; rfl
  unfold unE
  rw [this, if_neg (by omega)]
  split
  · simp
  split <;> simp
theorem dg_byt (s : ByteArray) (j : Nat) (h : j < min s.size 32) : byt (dgS s) j = byt s j := by
  have h1 : j < (dgS s).size := by rw [dgS_size]; exact h
  have h2 : j < s.size := by omega
  rw [← byt_at _ j h1, ← byt_at _ j h2]
  congr 1
  show ((s.extract 0 (min s.size 32)).data[j]'h1) = s.data[j]'h2
  simp [ByteArray.data_extract]
/-- A copy, kept shut. -/
def copyR (ty : Nat) (vs : Array Value) : Sem Value := Builtin.copy_ #[31, 31] ty vs
theorem toCopy (ty : Nat) (vs : Array Value) : Builtin.copy_ #[31, 31] ty vs = copyR ty vs := rfl
theorem run_copyL (w : World) (ty G g N : Nat) (nm : ByteArray) (hG : w.heap[G]? = some (.cells (lab z20 nm) 25 (0, 0))) (hg : w.heap[g]? = some (.cells (bs (byts N 21)) 5 (0, 0))) :
    (copyR ty #[.slice (some ⟨G, 0, none⟩) 20 20, .slice (some ⟨g, 0, none⟩) 20 20]).run Tryd.prog w = .ok (.int .i64 20) (w.setRow G (lab (byts N 20) nm)) := by
  have hlen : (bs (byts N 20)).toList.length = 20 := by rw [Array.length_toList, bs_size, byts_len]
  have := run_copy_row (P := Tryd.prog) w 31 31 ty 5 G 0 20 20 ⟨g, 0, none⟩ 20 20 (lab z20 nm) 25 (bs (byts N 20)).toList Tryd.underlying31 size5 hG (by rw [hlen]; rfl) (fun j v hv => by
    have hj : j < 20 := by have := (List.getElem?_eq_some_iff.1 hv).1; omega
    rw [Addr.add_mid, Nat.zero_add, cell_of_row w _ _ _ _ _ hg, bs_get _ _ (by rw [byts_len]; omega), byts_get _ _ _ (by omega)]
    rw [Array.getElem?_toList, bs_get _ _ (by rw [byts_len]; exact hj), byts_get _ _ _ hj] at hv
    exact hv) (by rw [hlen, lab_size z20 nm rfl]; omega) (fun v hv => by
    rw [bs_toList] at hv
    obtain ⟨x, _, rfl⟩ := List.mem_map.1 hv
    rfl)
  unfold copyR
  rw [this, hlen]
  have e : ((lab z20 nm).toList.take 0 ++ (bs (byts N 20)).toList ++ (lab z20 nm).toList.drop (0 + 20)).toArray = lab (byts N 20) nm := by
    apply Array.ext'
    simp [lab, bs, z20]
  rw [e]
  rfl
attribute [local go_sem] zero25
attribute [local go_sem ↓] to25s to25l to23l toBuild toCopy
set_option maxRecDepth 100000 in
set_option maxHeartbeats 3200000 in
theorem pbR_any (s : ByteArray) (w : World) :
    Calls Tryd.prog 20 #[.string s] w fun e w' => e = .returned (three (pbV s)) ∧ Below w.heap.size w w' := by
  obtain ⟨a, ha⟩ : ∃ a, a = pbV s := ⟨_, rfl⟩
  rw [← ha]
  have HA : Hid (a = pbV s) := ha
  clear ha
  have END : Hid (∀ (W : World), W.heap[w.heap.size]? = some (.cells none25 25 (0, 0)) → W.heap[w.heap.size + 1]? = some (.cells none25 25 (0, 0)) → Below w.heap.size w W → (loadR 25 (.pointer (some ⟨w.heap.size + 1, 0, none⟩))).run Tryd.prog W = .ok (.agg none25) W ∧ (storeR 25 (.pointer (some ⟨w.heap.size, 0, none⟩)) (.agg none25)).run Tryd.prog W = .ok () (W.setRow w.heap.size none25) ∧ Hid ((W.setRow w.heap.size none25).heap[w.heap.size]? = some (.cells none25 25 (0, 0)) ∧ Below w.heap.size w (W.setRow w.heap.size none25))) := fun W hr hr1 hb =>
    ⟨run_loadR25 W (w.heap.size + 1) z20 ⟨#[]⟩ hr1 rfl, run_storeR25 W w.heap.size z20 z20 ⟨#[]⟩ ⟨#[]⟩ hr rfl rfl, setRow_heap _ _ _ _ _ _ hr, below_setRow hb (Nat.le_refl _) _⟩
  obtain ⟨W0, hW0⟩ : ∃ W0, (w.alloc (.cells #[.int .u8 0, .int .u8 0, .int .u8 0, .int .u8 0, .int .u8 0, .int .u8 0, .int .u8 0, .int .u8 0, .int .u8 0, .int .u8 0, .int .u8 0, .int .u8 0, .int .u8 0, .int .u8 0, .int .u8 0, .int .u8 0, .int .u8 0, .int .u8 0, .int .u8 0, .int .u8 0, .string ⟨#[]⟩] 25)).alloc (.cells #[.int .u8 0, .int .u8 0, .int .u8 0, .int .u8 0, .int .u8 0, .int .u8 0, .int .u8 0, .int .u8 0, .int .u8 0, .int .u8 0, .int .u8 0, .int .u8 0, .int .u8 0, .int .u8 0, .int .u8 0, .int .u8 0, .int .u8 0, .int .u8 0, .int .u8 0, .int .u8 0, .string ⟨#[]⟩] 25) = W0 := ⟨_, rfl⟩
  have H0 : Hid (Below w.heap.size w W0 ∧ W0.heap[w.heap.size]? = some (.cells none25 25 (0, 0)) ∧ W0.heap[w.heap.size + 1]? = some (.cells none25 25 (0, 0))) := by
    rw [← hW0]
    refine ⟨((Below.refl _ w).alloc (Nat.le_refl _) _).alloc (by simp) _, (heap_alloc_old _ _ (h := by simp)).trans (heap_alloc_new _ _), ?_⟩
    have := heap_alloc_new (w.alloc (.cells none25 25)) (.cells none25 25)
    rw [heap_size_alloc] at this
    exact this
  by_cases h244 : 244 < s.size
  · have hE : Hid (a = (none25, 1, 0)) := by show _ = _; rw [HA.out, pbV, if_pos h244]
    have h1 : (244 : Int) < (s.size : Int) := by omega
    obtain ⟨ld, st, HF⟩ := END.out _ H0.out.2.1 H0.out.2.2 H0.out.1
    go_enter Tryd.func20, Tryd.ntmps20
    go_wp2_with fail
    exact bodyPost_ret (results_cell3 rfl _ _ w.heap.size z20 ⟨#[]⟩ rfl rfl HF.out.1) rfl ⟨by rw [hE.out]; rfl, HF.out.2⟩
  have h1 : ¬ (244 : Int) < (s.size : Int) := by omega
  have HV : Hid (pbV s = if (unE (dgS s)).1 = 10 then (none25, 21, (unE (dgS s)).2) else if s.size ≤ 32 then (none25, 3, s.size) else if ¬ byt s 32 = 45 then (none25, 24, 32) else if ¬ (checkN (s.extract 33 s.size)).1 = 0 then (none25, (checkN (s.extract 33 s.size)).1, 33 + (checkN (s.extract 33 s.size)).2) else (lab (byts (unN (dgS s)) 20) (s.extract 33 s.size), 0, 0)) := by
    show _ = _
    rw [pbV, if_neg h244]
  go_enter Tryd.func20, Tryd.ntmps20
  go_wp2_with fail
  clear hW0
  go_loopw [6] (fun i wr => ∃ k : Nat, i = .int .i64 (k : Int) ∧ k ≤ 32 ∧ k ≤ s.size ∧ Hid (∀ j, j < k → ¬ kn 32 (byt s j) = 0) ∧ wr = W0) (fun i _ => 32 - (intOf i).toNat)
  case atStart => exact ⟨0, rfl, by omega, by omega, fun j hj => by omega, rfl⟩
  case round =>
    obtain ⟨k, rfl, hk, hks, HJ, hwr⟩ := hrel
    subst hwr
    obtain ⟨ld, st, HF⟩ := END.out _ H0.out.2.1 H0.out.2.2 H0.out.1
    by_cases hlt : k < 32
    · have hk1 : (k : Int) < 32 := by omega
      have hk0 : (0 : Int) ≤ (k : Int) := by omega
      by_cases hlen : k < s.size
      · have hl1 : ¬ ((s.size : Int) ≤ (k : Int)) := by omega
        have hl2 : (k : Int) < (s.size : Int) := by omega
        have hk2 : IntKind.i64.wrap ((k : Int) + 1) = (k : Int) + 1 := by rw [IntKind.wrap_i64]; omega
        obtain ⟨c, hc⟩ : ∃ c, c = byt s k := ⟨_, rfl⟩
        have ix : ∀ W : World, (Instr.index 9 (.string s) (.int .i64 (k : Int))).run Tryd.prog W = .ok (.int .u8 (c : Int)) W := fun W => by
          rw [hc]; exact idx9 W s k hlen
        have CD := digit_any c (by rw [hc]; exact byt_lt s k) wr
        have HC : Hid (c = byt s k) := hc
        clear hc
        by_cases hkn : kn 32 c = 0
        · rw [show decide (¬ kn 32 c = 0) = false by simp [hkn]] at CD
          have hE : Hid (a = (none25, 21, k)) := by
            show _ = _
            have hd := dgS_size s
            rw [HA.out, HV.out, unE_at (dgS s) k (by omega) (by rw [dg_byt s k (by omega), ← HC.out]; exact hkn) (fun j hj => by rw [dg_byt s j (by omega)]; exact HJ.out j hj)]
            rfl
          go_wp2_with fail
          refine CD.mono ?_
          rintro e w' ⟨rfl, hw'⟩
          subst hw'
          go_wp2_with fail
          exact bodyPost_ret (results_cell3 rfl _ _ w.heap.size z20 ⟨#[]⟩ rfl rfl HF.out.1) rfl ⟨by rw [hE.out]; rfl, HF.out.2⟩
        · rw [show decide (¬ kn 32 c = 0) = true by simp [hkn]] at CD
          go_wp2_with fail
          refine CD.mono ?_
          rintro e w' ⟨rfl, hw'⟩
          subst hw'
          go_wp2_with fail
          exact ⟨⟨k + 1, by simp, by omega, by omega, (fun j hj => by
            by_cases hjk : j = k
            · rw [hjk, ← HC.out]; exact hkn
            · exact HJ.out j (by omega)), trivial⟩, by simp only [intOf]; omega⟩
      · have hl1 : (s.size : Int) ≤ (k : Int) := by omega
        have hE : Hid (a = (none25, 3, s.size)) := by
          show _ = _
          have hd := dgS_size s
          rw [HA.out, HV.out, if_neg (unE_not (dgS s) fun j hj => by rw [dg_byt s j (by omega)]; exact HJ.out j (by omega)), if_pos (by omega)]
        go_wp2_with fail
        exact bodyPost_ret (results_cell3 rfl _ _ w.heap.size z20 ⟨#[]⟩ rfl rfl HF.out.1) rfl ⟨by rw [hE.out]; rfl, HF.out.2⟩
    · have hk1 : ¬ ((k : Int) < 32) := by omega
      have hke : k = 32 := by omega
      subst hke
      have HV2 : Hid (a = if s.size ≤ 32 then (none25, 3, s.size) else if ¬ byt s 32 = 45 then (none25, 24, 32) else if ¬ (checkN (s.extract 33 s.size)).1 = 0 then (none25, (checkN (s.extract 33 s.size)).1, 33 + (checkN (s.extract 33 s.size)).2) else (lab (byts (unN (dgS s)) 20) (s.extract 33 s.size), 0, 0)) := by
        show _ = _
        have hd := dgS_size s
        rw [HA.out, HV.out, if_neg (unE_not (dgS s) fun j hj => by rw [dg_byt s j (by omega)]; exact HJ.out j (by omega))]
      by_cases h32 : s.size = 32
      · have hE : Hid (a = (none25, 3, 32)) := by show _ = _; rw [HV2.out, if_pos (by omega), h32]
        have h32' : ((s.size : Int) == 32) = true := by rw [h32]; rfl
        go_wp2_with fail
        exact bodyPost_ret (results_cell3 rfl _ _ w.heap.size z20 ⟨#[]⟩ rfl rfl HF.out.1) rfl ⟨by rw [hE.out]; rfl, HF.out.2⟩
      · have h32' : ((s.size : Int) == 32) = false := beq_eq_false_iff_ne.2 (by omega)
        rw [if_neg (by omega)] at HV2
        have hle3 : (33 : Int) ≤ (s.size : Int) := by omega
        have hle : (32 : Int) ≤ (s.size : Int) := by omega
        obtain ⟨q, hq⟩ : ∃ q, q = byt s 32 := ⟨_, rfl⟩
        have hix : ∀ W : World, (Instr.index 9 (.string s) (.int .i64 32)).run Tryd.prog W = .ok (.int .u8 (q : Int)) W := fun W => by
          rw [hq]; exact idx9 W s 32 (by omega)
        rw [← hq] at HV2
        clear hq
        by_cases hq45 : q = 45
        · rw [if_neg (by simpa using hq45)] at HV2
          subst hq45
          obtain ⟨nm, hnm⟩ : ∃ nm, nm = s.extract 33 s.size := ⟨_, rfl⟩
          have hx2 : s.extract 33 s.size = nm := hnm.symm
          have hx1 : s.extract 0 32 = dgS s := by unfold dgS; rw [show min s.size 32 = 32 by omega]
          obtain ⟨d, hd⟩ : ∃ d, d = dgS s := ⟨_, rfl⟩
          rw [← hd] at hx1
          obtain ⟨c1, hc1⟩ : ∃ c, c = (checkN nm).1 := ⟨_, rfl⟩
          obtain ⟨c2, hc2⟩ : ∃ c, c = (checkN nm).2 := ⟨_, rfl⟩
          rw [← hnm, ← hc1, ← hc2, ← hd] at HV2
          have CC : Hid (∀ W, Calls Tryd.prog 30 #[.string nm] W fun e w' => e = .returned (.tuple #[.int .i64 (c1 : Int), .int .i64 (c2 : Int)]) ∧ w' = W) := fun W => by
            have := ref_any nm W
            unfold ans at this
            rw [← hc1, ← hc2] at this
            exact this
          have hc2l : c2 ≤ 1000 := by
            rw [hc2]
            have hns : nm.size ≤ 244 := by rw [hnm, ByteArray.size_extract]; omega
            unfold checkN
            split
            · simp
            split
            · simp
            split
            · rename_i i hi
              have := badAt_lt nm _ _ _ hi
              simp; omega
            · simp
          have CU : Hid (∀ W, Calls Tryd.prog 35 #[.string d] W fun e w' => ∃ g, e = .returned (.tuple #[.slice (some ⟨g, 0, none⟩) 20 20, .int .i64 0, .int .i64 0]) ∧ Below W.heap.size W w' ∧ W.heap.size ≤ g ∧ w'.heap[g]? = some (.cells (bs (byts (unN d) 21)) 5 (0, 0))) := fun W => by
            have hds := dgS_size s
            exact unR_any d (by rw [hd, hds]; omega) (fun i hi => by rw [hd, dg_byt s i (by omega)]; exact HJ.out i hi) W
          clear hnm hd hc1 hc2 HV HA
          go_wp2_with fail
          refine (CC.out _).mono ?_
          rintro e w' ⟨rfl, hw'⟩
          subst hw'
          by_cases hc0 : c1 = 0
          · rw [if_neg (by simpa using hc0)] at HV2
            subst hc0
            go_wp2_with fail
            refine (CU.out _).mono ?_
            rintro e W1 ⟨g, rfl, b1, hg, hrow⟩
            have zw : w.heap.size + 1 < w'.heap.size := (Array.getElem?_eq_some_iff.1 H0.out.2.2).1
            have r1 : W1.heap[w.heap.size]? = some (.cells none25 25 (0, 0)) := (b1.block _ (by omega)).trans H0.out.2.1
            have bel1 : Below w.heap.size w W1 := H0.out.1.trans (b1.mono (by omega))
            have z1 : w.heap.size < W1.heap.size := (Array.getElem?_eq_some_iff.1 r1).1
            have zg : g < W1.heap.size := (Array.getElem?_eq_some_iff.1 hrow).1
            have hbx := fun W => run_buildX W nm
            have s1 : (storeR 25 (.pointer (some ⟨W1.heap.size, 0, none⟩)) (.agg (lab z20 nm))).run Tryd.prog (W1.alloc (.cells #[.int .u8 0, .int .u8 0, .int .u8 0, .int .u8 0, .int .u8 0, .int .u8 0, .int .u8 0, .int .u8 0, .int .u8 0, .int .u8 0, .int .u8 0, .int .u8 0, .int .u8 0, .int .u8 0, .int .u8 0, .int .u8 0, .int .u8 0, .int .u8 0, .int .u8 0, .int .u8 0, .string ⟨#[]⟩] 25)) = .ok () ((W1.alloc (.cells none25 25)).setRow W1.heap.size (lab z20 nm)) := run_storeR25 (W1.alloc (.cells none25 25)) W1.heap.size z20 z20 ⟨#[]⟩ nm (heap_alloc_new _ _) rfl rfl
            obtain ⟨W2, hW2⟩ : ∃ W, W = (W1.alloc (.cells none25 25)).setRow W1.heap.size (lab z20 nm) := ⟨_, rfl⟩
            have rn : W2.heap[W1.heap.size]? = some (.cells (lab z20 nm) 25 (0, 0)) := by rw [hW2]; exact setRow_heap _ _ _ _ _ _ (heap_alloc_new _ _)
            have rg : W2.heap[g]? = some (.cells (bs (byts (unN d) 21)) 5 (0, 0)) := by rw [hW2]; exact (setRow_other _ _ _ _ (by omega)).trans ((heap_alloc_old _ _ (h := zg)).trans hrow)
            have r2 : W2.heap[w.heap.size]? = some (.cells none25 25 (0, 0)) := by rw [hW2]; exact (setRow_other _ _ _ _ (by omega)).trans ((heap_alloc_old _ _ (h := z1)).trans r1)
            have bel2 : Below w.heap.size w W2 := by rw [hW2]; exact below_setRow (bel1.alloc (by omega) _) (by omega) _
            rw [← hW2] at s1
            have cp := fun ty => run_copyL W2 ty W1.heap.size g (unN d) nm rn rg
            obtain ⟨W3, hW3⟩ : ∃ W, W = W2.setRow W1.heap.size (lab (byts (unN d) 20) nm) := ⟨_, rfl⟩
            have hl20 := byts_len (unN d) 20
            have r3 : W3.heap[W1.heap.size]? = some (.cells (lab (byts (unN d) 20) nm) 25 (0, 0)) := by rw [hW3]; exact setRow_heap _ _ _ _ _ _ rn
            have r3' : W3.heap[w.heap.size]? = some (.cells none25 25 (0, 0)) := by rw [hW3]; exact (setRow_other _ _ _ _ (by omega)).trans r2
            have bel3 : Below w.heap.size w W3 := by rw [hW3]; exact below_setRow bel2 (by omega) _
            simp only [← hW3] at cp
            have l3 := run_loadR25 W3 W1.heap.size _ nm r3 hl20
            have s3 := run_storeR25 W3 w.heap.size z20 _ ⟨#[]⟩ nm r3' rfl hl20
            have hres : Hid ((W3.setRow w.heap.size (lab (byts (unN d) 20) nm)).heap[w.heap.size]? = some (.cells (lab (byts (unN d) 20) nm) 25 (0, 0))) := setRow_heap _ _ _ _ _ _ r3'
            have bel4 : Hid (Below w.heap.size w (W3.setRow w.heap.size (lab (byts (unN d) 20) nm))) := below_setRow bel3 (Nat.le_refl _) _
            clear hW2 hW3 rn rg r2 r1 b1 bel1 bel2 bel3 z1 zg zw hg hrow r3 r3' ld st
            go_wp2_with fail
            exact bodyPost_ret (results_cell3 rfl _ _ w.heap.size _ nm hl20 rfl hres.out) rfl ⟨by rw [HV2.out]; rfl, bel4.out⟩
          · rw [if_pos hc0] at HV2
            have hc0' : ((c1 : Int) != 0) = true := by simp; omega
            have hadd : IntKind.i64.wrap ((c2 : Int) + 33) = (c2 : Int) + 33 := by rw [IntKind.wrap_i64]; omega
            go_wp2_with fail
            exact bodyPost_ret (results_cell3 rfl _ _ w.heap.size z20 ⟨#[]⟩ rfl rfl HF.out.1) rfl ⟨by rw [HV2.out]; simp [three]; exact ⟨rfl, by omega⟩, HF.out.2⟩
        · rw [if_pos hq45] at HV2
          have hq' : ((q : Int) != 45) = true := by simp; omega
          go_wp2_with fail
          exact bodyPost_ret (results_cell3 rfl _ _ w.heap.size z20 ⟨#[]⟩ rfl rfl HF.out.1) rfl ⟨by rw [HV2.out]; rfl, HF.out.2⟩
end Go.Proofs.YtmfkhpledgnipaaDoor
