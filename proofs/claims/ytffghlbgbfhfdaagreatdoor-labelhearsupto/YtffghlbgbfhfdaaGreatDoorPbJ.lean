/- Several texts in one: PbG, PaG. -/
import Derived.Test.YtffghlbgbfhfdaaGreatDoorWorks
/- ParseBase of any text: the code's. -/
namespace Go.Proofs.YtffghlbgbfhfdaaGreatDoor
open Go.RowKit
set_option maxRecDepth 100000 in
theorem run_build0 (w : World) : (buildR #[]).run Tryz.prog w = .ok (.agg none25) w := run_build w 51 _ _ (by kernel_rfl)
/-- The text of the hash part, if it is whole. -/
def dgS (s : ByteArray) : ByteArray := s.extract 0 (min s.size 32)
theorem dgS_size (s : ByteArray) : (dgS s).size = min s.size 32 := by
  unfold dgS
  rw [ByteArray.size_extract]
  omega
/-- What ParseBase answers: the label's cells, the error, the place. -/
def pbV (s : ByteArray) : Array Value × Nat × Nat :=
  if 244 < s.size then (none25, 1, 0)
  else if (unE (dgS s)).1 = 10 then (none25, 21, (unE (dgS s)).2)
  else if s.size ≤ 32 then (none25, 3, s.size)
  else if ¬ byt s 32 = 45 then (none25, 24, 32)
  else if ¬ (checkN (s.extract 33 s.size)).1 = 0 then (none25, (checkN (s.extract 33 s.size)).1, 33 + (checkN (s.extract 33 s.size)).2)
  else (lab (byts (unN (dgS s)) 20) (s.extract 33 s.size), 0, 0)
def three (p : Array Value × Nat × Nat) : Value := .tuple #[.agg p.1, .int .i64 (p.2.1 : Int), .int .i64 (p.2.2 : Int)]
theorem unE_whole (s : ByteArray) (h : s.size = 32) (h10 : ¬ (unE s).1 = 10) : unE s = (0, 0) := by
  have hsp : spareN s = 0 := by unfold spareN; rw [h]
  unfold unE at h10 ⊢
  split at h10
  · exact absurd rfl h10
  · rename_i hf
    rw [if_neg hf, hsp, if_neg (by omega), if_neg (by omega)]
theorem badAt_lt (s : ByteArray) : ∀ (f i m : Nat), badAt s f i = some m → m < s.size
  | 0, i, m, h => by simp [badAt] at h
  | f + 1, i, m, h => by
    unfold badAt at h
    by_cases hi : i < s.size
    · rw [if_pos hi] at h
      split at h
      · exact badAt_lt s f (i + 1) m h
      · have := Option.some.inj h; omega
    · rw [if_neg hi] at h; exact absurd h (by simp)
attribute [local go_sem] zero25
attribute [local go_sem ↓] to25s to25l to23l toBuild
set_option maxRecDepth 100000 in
set_option maxHeartbeats 3200000 in
theorem pbC_any (s : ByteArray) (w : World) (ht : Tx w) :
    Calls Tryz.prog 64 #[.string s] w fun e w' => e = .returned (three (pbV s)) ∧ Below w.heap.size w w' := by
  obtain ⟨a, ha⟩ : ∃ a, a = pbV s := ⟨_, rfl⟩
  rw [← ha]
  have bel0 : Below w.heap.size w (w.alloc (.cells none25 51)) := (Below.refl _ w).alloc (Nat.le_refl _) _
  have z0 : (w.alloc (.cells none25 51)).heap.size = w.heap.size + 1 := by simp
  have HB0 : Hid (Below w.heap.size w (w.alloc (.cells none25 51)) ∧ (w.alloc (.cells none25 51)).heap.size = w.heap.size + 1) := ⟨bel0, z0⟩
  have HT : Hid (Tx (w.alloc (.cells none25 51))) := ht.below bel0 ht.sz
  have hbu0 := run_build0
  clear z0 ht
  -- the end of every error
  have END : Hid (∀ (W : World) (x y : Nat), W.heap[w.heap.size]? = some (.cells none25 51 (0, 0)) → Below w.heap.size w W → (storeR 51 (.pointer (some ⟨w.heap.size, 0, none⟩)) (.agg none25)).run Tryz.prog W = .ok () (W.setRow w.heap.size none25) ∧ (W.setRow w.heap.size none25).heap[w.heap.size]? = some (.cells none25 51 (0, 0)) ∧ Below w.heap.size w (W.setRow w.heap.size none25)) := fun W x y hr hb =>
    ⟨run_storeR25 W w.heap.size z20 z20 ⟨#[]⟩ ⟨#[]⟩ hr rfl rfl, setRow_heap _ _ _ _ _ _ hr, below_setRow hb (Nat.le_refl _) _⟩
  by_cases h244 : 244 < s.size
  · have hE : Hid (a = (none25, 1, 0)) := by show _ = _; rw [ha, pbV, if_pos h244]
    have h1 : (244 : Int) < (s.size : Int) := by omega
    obtain ⟨st, hres, bel⟩ := END.out (w.alloc (.cells none25 51)) 0 0 (heap_alloc_new _ _) bel0
    replace st : (storeR 51 (.pointer (some ⟨w.heap.size, 0, none⟩)) (.agg none25)).run Tryz.prog (w.alloc (.cells #[.int .u8 0, .int .u8 0, .int .u8 0, .int .u8 0, .int .u8 0, .int .u8 0, .int .u8 0, .int .u8 0, .int .u8 0, .int .u8 0, .int .u8 0, .int .u8 0, .int .u8 0, .int .u8 0, .int .u8 0, .int .u8 0, .int .u8 0, .int .u8 0, .int .u8 0, .int .u8 0, .string ⟨#[]⟩] 51)) = .ok () ((w.alloc (.cells none25 51)).setRow w.heap.size none25) := st
    have HF : Hid (((w.alloc (.cells none25 51)).setRow w.heap.size none25).heap[w.heap.size]? = some (.cells none25 51 (0, 0)) ∧ Below w.heap.size w ((w.alloc (.cells none25 51)).setRow w.heap.size none25)) := ⟨hres, bel⟩
    clear ha bel0 hres bel
    go_enter Tryz.func64, Tryz.ntmps64
    go_wp2_with fail
    exact bodyPost_ret (results_cell3 rfl _ _ w.heap.size z20 ⟨#[]⟩ rfl rfl HF.out.1) rfl ⟨by rw [hE.out]; rfl, HF.out.2⟩
  rw [pbV, if_neg h244] at ha
  obtain ⟨d, hd⟩ : ∃ d, d = dgS s := ⟨_, rfl⟩
  have hds : d.size = min s.size 32 := by rw [hd, dgS_size]
  have HU : Hid (Calls Tryz.prog 81 #[.string d] (w.alloc (.cells none25 51)) (UnPost d (w.alloc (.cells none25 51)))) := un_any d (by omega) _ HT.out
  have hx : s.extract 0 (min s.size 32) = d := by rw [hd]; rfl
  rw [← hd] at ha
  have h1 : ¬ (244 : Int) < (s.size : Int) := by omega
  have HA := ha
  clear ha
  have HD : Hid (d = dgS s ∧ d.size = min s.size 32) := ⟨hd, hds⟩
  clear hd hds
  obtain ⟨u1, hu1⟩ : ∃ u, u = (unE d).1 := ⟨_, rfl⟩
  obtain ⟨u2, hu2⟩ : ∃ u, u = (unE d).2 := ⟨_, rfl⟩
  have HU2 : Hid (u1 = (unE d).1 ∧ u2 = (unE d).2) := ⟨hu1, hu2⟩
  rw [← hu1, ← hu2] at HA
  have HU' : Hid (Calls Tryz.prog 81 #[.string d] (w.alloc (.cells none25 51)) fun e W1 => ∃ v, e = .returned (.tuple #[v, .int .i64 (u1 : Int), .int .i64 (u2 : Int)]) ∧ W1.heap[w.heap.size]? = some (.cells none25 51 (0, 0)) ∧ Below w.heap.size w W1 ∧ (u1 = 0 → ∃ g, v = .slice (some ⟨g, 0, none⟩) (5 * d.size / 8) (5 * d.size / 8) ∧ w.heap.size < g ∧ W1.heap[g]? = some (.cells (bs (byts (unN d) (5 * d.size / 8))) 5 (0, 0)))) := by
    refine HU.out.mono ?_
    rintro e W1 ⟨b1, v, rfl, hif⟩
    refine ⟨v, by rw [hu1, hu2], (b1.block _ (by rw [HB0.out.2]; omega)).trans (heap_alloc_new _ _), bel0.trans (b1.mono (by rw [HB0.out.2]; omega)), fun h0 => ?_⟩
    rw [if_pos (by rw [← hu1]; exact h0)] at hif
    obtain ⟨g, hv, hg, hrow⟩ := hif
    rw [HB0.out.2] at hg
    exact ⟨g, hv, by omega, hrow⟩
  clear hu1 hu2 HU bel0 HB0 HT
  by_cases h32 : s.size ≤ 32
  · have hmin : min (s.size : Int) 32 = (s.size : Int) := by omega
    have hmn : min s.size 32 = s.size := by omega
    rw [hmn] at hx
    have h32' : (s.size : Int) ≤ 32 := by omega
    rw [if_pos h32] at HA
    have HA' : Hid (a = if u1 = 10 then (none25, 21, u2) else (none25, 3, s.size)) := HA
    clear HA hmn
    go_enter Tryz.func64, Tryz.ntmps64
    go_wp2_with fail
    refine HU'.out.mono ?_
    rintro e W1 ⟨v, rfl, r1, bel1, _⟩
    obtain ⟨st, hres, bel⟩ := END.out W1 0 0 r1 bel1
    have HF : Hid ((W1.setRow w.heap.size none25).heap[w.heap.size]? = some (.cells none25 51 (0, 0)) ∧ Below w.heap.size w (W1.setRow w.heap.size none25)) := ⟨hres, bel⟩
    clear r1 bel1 hres bel
    by_cases h10 : u1 = 10
    · rw [if_pos h10] at HA'
      subst h10
      go_wp2_with fail
      exact bodyPost_ret (results_cell3 rfl _ _ w.heap.size z20 ⟨#[]⟩ rfl rfl HF.out.1) rfl ⟨by rw [HA'.out]; rfl, HF.out.2⟩
    · rw [if_neg h10] at HA'
      have h10' : ((u1 : Int) == 10) = false := by simp; omega
      go_wp2_with fail
      exact bodyPost_ret (results_cell3 rfl _ _ w.heap.size z20 ⟨#[]⟩ rfl rfl HF.out.1) rfl ⟨by rw [HA'.out]; rfl, HF.out.2⟩
  · have hmin : min (s.size : Int) 32 = 32 := by omega
    have hmn : min s.size 32 = 32 := by omega
    rw [hmn] at hx
    have hle : (32 : Int) ≤ (s.size : Int) := by omega
    have hle3 : (33 : Int) ≤ (s.size : Int) := by omega
    have h32' : ¬ (s.size : Int) ≤ 32 := by omega
    have hd32 : d.size = 32 := by rw [HD.out.2, hmn]
    rw [if_neg h32] at HA
    have hu0 : ¬ u1 = 10 → u1 = 0 ∧ u2 = 0 := fun h => by
      have := unE_whole d hd32 (by rw [← HU2.out.1]; exact h)
      rw [HU2.out.1, HU2.out.2, this]
      exact ⟨rfl, rfl⟩
    rw [hd32] at HU'
    have HU0 : Hid (¬ u1 = 10 → u1 = 0 ∧ u2 = 0) := hu0
    obtain ⟨nm, hnm⟩ : ∃ nm, nm = s.extract 33 s.size := ⟨_, rfl⟩
    rw [← hnm] at HA
    have hx2 : s.extract 33 s.size = nm := hnm.symm
    obtain ⟨q, hq⟩ : ∃ q, q = byt s 32 := ⟨_, rfl⟩
    rw [← hq] at HA
    have hix : ∀ W : World, (Instr.index 9 (.string s) (.int .i64 32)).run Tryz.prog W = .ok (.int .u8 (q : Int)) W := fun W => by
      rw [hq]; exact idx9 W s 32 (by omega)
    obtain ⟨c1, hc1⟩ : ∃ c, c = (checkN nm).1 := ⟨_, rfl⟩
    obtain ⟨c2, hc2⟩ : ∃ c, c = (checkN nm).2 := ⟨_, rfl⟩
    rw [← hc1, ← hc2] at HA
    have CC : Hid (∀ W, Calls Tryz.prog 34 #[.string nm] W fun e w' => e = .returned (.tuple #[.int .i64 (c1 : Int), .int .i64 (c2 : Int)]) ∧ Below W.heap.size W w') := fun W => by
      have := check_any nm W
      unfold ans at this
      rw [← hc1, ← hc2] at this
      exact this
    have hc2l : c2 ≤ 1000 := by
      rw [hc2]
      have hns : nm.size ≤ 244 := by rw [hnm, ByteArray.size_extract]; omega
      unfold checkN
      split
      · simp
      split
      · simp
      split
      · rename_i i hi
        have := badAt_lt nm _ _ _ hi
        simp; omega
      · simp
    have HA' : Hid (a = if u1 = 10 then (none25, 21, u2) else if ¬ q = 45 then (none25, 24, 32) else if ¬ c1 = 0 then (none25, c1, 33 + c2) else (lab (byts (unN d) 20) nm, 0, 0)) := HA
    have hl20 := byts_len (unN d) 20
    clear HA hmn hd32 hu0 hnm hq hc1 hc2 HU2
    go_enter Tryz.func64, Tryz.ntmps64
    go_wp2_with fail
    refine HU'.out.mono ?_
    rintro e W1 ⟨v, rfl, r1, bel1, hgg⟩
    have HGG : Hid (u1 = 0 → ∃ g, v = .slice (some ⟨g, 0, none⟩) 20 20 ∧ w.heap.size < g ∧ W1.heap[g]? = some (.cells (bs (byts (unN d) 20)) 5 (0, 0))) := hgg
    obtain ⟨st, hres, bel⟩ := END.out W1 0 0 r1 bel1
    have HF : Hid ((W1.setRow w.heap.size none25).heap[w.heap.size]? = some (.cells none25 51 (0, 0)) ∧ Below w.heap.size w (W1.setRow w.heap.size none25)) := ⟨hres, bel⟩
    have HR1 : Hid (W1.heap[w.heap.size]? = some (.cells none25 51 (0, 0)) ∧ Below w.heap.size w W1) := ⟨r1, bel1⟩
    clear r1 bel1 hres bel hgg
    by_cases h10 : u1 = 10
    · rw [if_pos h10] at HA'
      subst h10
      go_wp2_with fail
      exact bodyPost_ret (results_cell3 rfl _ _ w.heap.size z20 ⟨#[]⟩ rfl rfl HF.out.1) rfl ⟨by rw [HA'.out]; rfl, HF.out.2⟩
    · rw [if_neg h10] at HA'
      obtain ⟨rfl, rfl⟩ := HU0.out h10
      by_cases hq45 : q = 45
      · rw [if_neg (by simpa using hq45)] at HA'
        subst hq45
        obtain ⟨g, rfl, hg, hrow⟩ := HGG.out rfl
        have hg1 : g < W1.heap.size := (Array.getElem?_eq_some_iff.1 hrow).1
        have HROW : Hid (W1.heap[g]? = some (.cells (bs (byts (unN d) 20)) 5 (0, 0))) := hrow
        have Hg : Hid (w.heap.size < g ∧ g < W1.heap.size) := ⟨hg, hg1⟩
        clear st HF hrow hg hg1
        go_wp2_with fail
        refine (CC.out _).mono ?_
        rintro e W2 ⟨rfl, b2⟩
        have hg := Hg.out
        have R2 : W2.heap[w.heap.size]? = some (.cells none25 51 (0, 0)) := (b2.block _ (by omega)).trans HR1.out.1
        have G2 : W2.heap[g]? = some (.cells (bs (byts (unN d) 20)) 5 (0, 0)) := (b2.block _ hg.2).trans HROW.out
        have bel2 : Below w.heap.size w W2 := HR1.out.2.trans (b2.mono (by omega))
        by_cases hc0 : c1 = 0
        · rw [if_neg (by simpa using hc0)] at HA'
          subst hc0
          have ld := run_load23 W2 g _ G2 hl20
          have har := fun W => run_arrayAt W g
          have hbu := fun W => run_buildR W _ hl20 nm
          have st := run_storeR25 W2 w.heap.size z20 _ ⟨#[]⟩ nm R2 rfl hl20
          have hres : Hid ((W2.setRow w.heap.size (lab (byts (unN d) 20) nm)).heap[w.heap.size]? = some (.cells (lab (byts (unN d) 20) nm) 51 (0, 0))) := setRow_heap _ _ _ _ _ _ R2
          have bel3 : Hid (Below w.heap.size w (W2.setRow w.heap.size (lab (byts (unN d) 20) nm))) := below_setRow bel2 (Nat.le_refl _) _
          clear R2 G2 b2 bel2 hg
          go_wp2_with fail
          exact bodyPost_ret (results_cell3 rfl _ _ w.heap.size _ nm hl20 rfl hres.out) rfl ⟨by rw [HA'.out]; rfl, bel3.out⟩
        · rw [if_pos hc0] at HA'
          have hc0' : ((c1 : Int) != 0) = true := by simp; omega
          have hadd : IntKind.i64.wrap (33 + (c2 : Int)) = 33 + (c2 : Int) := by rw [IntKind.wrap_i64]; omega
          obtain ⟨st, hres, bel⟩ := END.out W2 0 0 R2 bel2
          have HF : Hid ((W2.setRow w.heap.size none25).heap[w.heap.size]? = some (.cells none25 51 (0, 0)) ∧ Below w.heap.size w (W2.setRow w.heap.size none25)) := ⟨hres, bel⟩
          clear R2 G2 b2 bel2 hg hres bel
          go_wp2_with fail
          exact bodyPost_ret (results_cell3 rfl _ _ w.heap.size z20 ⟨#[]⟩ rfl rfl HF.out.1) rfl ⟨by rw [HA'.out]; simp [three]; rfl, HF.out.2⟩
      · rw [if_pos hq45] at HA'
        have hq' : ((q : Int) != 45) = true := by simp; omega
        go_wp2_with fail
        exact bodyPost_ret (results_cell3 rfl _ _ w.heap.size z20 ⟨#[]⟩ rfl rfl HF.out.1) rfl ⟨by rw [HA'.out]; rfl, HF.out.2⟩
end Go.Proofs.YtffghlbgbfhfdaaGreatDoor

/- Parse of any text: the code's. -/
namespace Go.Proofs.YtffghlbgbfhfdaaGreatDoor
open Go.RowKit
/-- The head of a text held against the store's: nothing, or the error and the place. -/
def hdV (s : ByteArray) : Nat → Nat → Option (Nat × Nat)
  | 0, _ => none
  | f + 1, i => if i = s.size then some (3, i) else if ¬ byt s i = byt store i then some (20, i) else hdV s f (i + 1)
/-- What Parse answers. -/
def paV (s : ByteArray) : Array Value × Nat × Nat :=
  if 257 < s.size then (none25, 1, 0) else match hdV s 13 0 with
  | some (e, i) => (none25, e, i)
  | none => if ¬ (pbV (s.extract 13 s.size)).2.1 = 0 then (none25, (pbV (s.extract 13 s.size)).2.1, 13 + (pbV (s.extract 13 s.size)).2.2) else ((pbV (s.extract 13 s.size)).1, 0, 0)
theorem pbV_form (s : ByteArray) : ((pbV s).2.1 = 0 ∧ ∃ h nm, h.length = 20 ∧ Byt h ∧ (pbV s).1 = lab h nm ∧ (pbV s).2.2 = 0) ∨ (¬ (pbV s).2.1 = 0 ∧ (pbV s).1 = none25 ∧ (pbV s).2.2 ≤ 2000) := by
  unfold pbV
  split
  · exact .inr ⟨by decide, rfl, by decide⟩
  rename_i h244
  split
  · rename_i h10
    refine .inr ⟨by simp, rfl, ?_⟩
    show (unE (dgS s)).2 ≤ 2000
    have hs := dgS_size s
    unfold unE
    split
    · show fuN (dgS s) ≤ _; omega
    split
    · show (dgS s).size ≤ _; omega
    split <;> simp
  split
  · exact .inr ⟨by simp, rfl, by show s.size ≤ _; omega⟩
  split
  · exact .inr ⟨by decide, rfl, by decide⟩
  split
  · rename_i hc
    refine .inr ⟨hc, rfl, ?_⟩
    show 33 + (checkN (s.extract 33 s.size)).2 ≤ 2000
    have hns : (s.extract 33 s.size).size ≤ 244 := by rw [ByteArray.size_extract]; omega
    unfold checkN
    split
    · simp
    split
    · simp
    split
    · rename_i i hi
      have := badAt_lt _ _ _ _ hi
      simp; omega
    · simp
  · exact .inl ⟨rfl, _, _, byts_len _ 20, fun x hx => by
      simp [byts] at hx
      obtain ⟨j, _, rfl⟩ := hx
      omega, rfl, rfl⟩
attribute [local go_sem] zero25
attribute [local go_sem ↓] to25s to25l to23l toBuild
set_option maxRecDepth 100000 in
set_option maxHeartbeats 3200000 in
theorem paC_any (s : ByteArray) (w : World) (ht : Tx w) :
    Calls Tryz.prog 49 #[.string s] w fun e w' => e = .returned (three (paV s)) ∧ Below w.heap.size w w' := by
  obtain ⟨a, ha⟩ : ∃ a, a = paV s := ⟨_, rfl⟩
  rw [← ha]
  have bel0 : Below w.heap.size w (w.alloc (.cells none25 51)) := (Below.refl _ w).alloc (Nat.le_refl _) _
  have HT : Hid (∀ V, Below w.heap.size w V → Tx V) := fun V hV => ht.below hV ht.sz
  have hbu0 := run_build0
  clear ht
  have END : Hid (∀ (W : World), W.heap[w.heap.size]? = some (.cells none25 51 (0, 0)) → Below w.heap.size w W → (storeR 51 (.pointer (some ⟨w.heap.size, 0, none⟩)) (.agg none25)).run Tryz.prog W = .ok () (W.setRow w.heap.size none25) ∧ (W.setRow w.heap.size none25).heap[w.heap.size]? = some (.cells none25 51 (0, 0)) ∧ Below w.heap.size w (W.setRow w.heap.size none25)) := fun W hr hb =>
    ⟨run_storeR25 W w.heap.size z20 z20 ⟨#[]⟩ ⟨#[]⟩ hr rfl rfl, setRow_heap _ _ _ _ _ _ hr, below_setRow hb (Nat.le_refl _) _⟩
  by_cases h257 : 257 < s.size
  · have hE : Hid (a = (none25, 1, 0)) := by show _ = _; rw [ha, paV, if_pos h257]
    have h1 : (257 : Int) < (s.size : Int) := by omega
    obtain ⟨st, hres, bel⟩ := END.out (w.alloc (.cells none25 51)) (heap_alloc_new _ _) bel0
    replace st : (storeR 51 (.pointer (some ⟨w.heap.size, 0, none⟩)) (.agg none25)).run Tryz.prog (w.alloc (.cells #[.int .u8 0, .int .u8 0, .int .u8 0, .int .u8 0, .int .u8 0, .int .u8 0, .int .u8 0, .int .u8 0, .int .u8 0, .int .u8 0, .int .u8 0, .int .u8 0, .int .u8 0, .int .u8 0, .int .u8 0, .int .u8 0, .int .u8 0, .int .u8 0, .int .u8 0, .int .u8 0, .string ⟨#[]⟩] 51)) = .ok () ((w.alloc (.cells none25 51)).setRow w.heap.size none25) := st
    have HF : Hid (((w.alloc (.cells none25 51)).setRow w.heap.size none25).heap[w.heap.size]? = some (.cells none25 51 (0, 0)) ∧ Below w.heap.size w ((w.alloc (.cells none25 51)).setRow w.heap.size none25)) := ⟨hres, bel⟩
    clear ha bel0 hres bel
    go_enter Tryz.func49, Tryz.ntmps49
    go_wp2_with fail
    exact bodyPost_ret (results_cell3 rfl _ _ w.heap.size z20 ⟨#[]⟩ rfl rfl HF.out.1) rfl ⟨by rw [hE.out]; rfl, HF.out.2⟩
  rw [paV, if_neg h257] at ha
  have h1 : ¬ (257 : Int) < (s.size : Int) := by omega
  have HA : Hid (a = match hdV s 13 0 with
    | some (e, i) => (none25, e, i)
    | none => if ¬ (pbV (s.extract 13 s.size)).2.1 = 0 then (none25, (pbV (s.extract 13 s.size)).2.1, 13 + (pbV (s.extract 13 s.size)).2.2) else ((pbV (s.extract 13 s.size)).1, 0, 0)) := ha
  have HB0 : Hid (Below w.heap.size w (w.alloc (.cells none25 51))) := bel0
  clear ha bel0
  go_enter Tryz.func49, Tryz.ntmps49
  go_wp2_with fail
  obtain ⟨W0, hW0⟩ : ∃ W, W = w.alloc (.cells none25 51) := ⟨_, rfl⟩
  change Code.wp _ _ _ _ (w.alloc (.cells none25 51))
  rw [← hW0]
  have r0 : Hid (W0.heap[w.heap.size]? = some (.cells none25 51 (0, 0))) := by rw [hW0]; exact heap_alloc_new _ _
  have b0 : Below w.heap.size w W0 := by rw [hW0]; exact HB0.out
  clear hW0 HB0
  go_loopw [13] (fun i wr => ∃ k : Nat, i = .int .i64 (k : Int) ∧ k ≤ 13 ∧ k ≤ s.size ∧ Hid (hdV s 13 0 = hdV s (13 - k) k) ∧ Hid (wr.heap[w.heap.size]? = some (.cells none25 51 (0, 0))) ∧ Below w.heap.size w wr) (fun i _ => 13 - (intOf i).toNat)
  case atStart => exact ⟨0, rfl, by omega, by omega, rfl, r0, b0⟩
  case round =>
    clear r0 b0
    obtain ⟨k, rfl, hk, hks, HK, r0, bel⟩ := hrel
    by_cases hlt : k < 13
    · have hk0 : (0 : Int) ≤ (k : Int) := by omega
      have hk1 : (k : Int) < 13 := by omega
      obtain ⟨f, hf⟩ : ∃ f, 13 - k = f + 1 := ⟨12 - k, by omega⟩
      have hun : hdV s 13 0 = if k = s.size then some (3, k) else if ¬ byt s k = byt store k then some (20, k) else hdV s f (k + 1) := by
        rw [HK.out, hf]; rfl
      by_cases hks2 : k = s.size
      · have HE : Hid (a = (none25, 3, k)) := by show _ = _; rw [HA.out, hun, if_pos hks2]
        have hk2 : ((k : Int) == (s.size : Int)) = true := by simp; omega
        obtain ⟨st, hres, bel'⟩ := END.out wr r0.out bel
        have HF : Hid ((wr.setRow w.heap.size none25).heap[w.heap.size]? = some (.cells none25 51 (0, 0)) ∧ Below w.heap.size w (wr.setRow w.heap.size none25)) := ⟨hres, bel'⟩
        clear hun hres bel' hks2
        go_wp2_with fail
        exact bodyPost_ret (results_cell3 rfl _ _ w.heap.size z20 ⟨#[]⟩ rfl rfl HF.out.1) rfl ⟨by rw [HE.out]; rfl, HF.out.2⟩
      · rw [if_neg hks2] at hun
        have hk2 : ¬ ((k : Int) = (s.size : Int)) := by omega
        obtain ⟨c, hc⟩ : ∃ c, c = byt store k := ⟨_, rfl⟩
        obtain ⟨c', hc'⟩ : ∃ c, c = byt s k := ⟨_, rfl⟩
        rw [← hc, ← hc'] at hun
        have i1 : ∀ W : World, (Instr.index 9 (.string s) (.int .i64 (k : Int))).run Tryz.prog W = .ok (.int .u8 (c' : Int)) W := fun W => by
          rw [hc']; exact idx9 W s k (by omega)
        have i2 : ∀ W : World, (Instr.index 9 (.string ⟨#[47, 103, 114, 97, 102, 116, 47, 115, 116, 111, 114, 101, 47]⟩) (.int .i64 (k : Int))).run Tryz.prog W = .ok (.int .u8 (c : Int)) W := fun W => by
          rw [hc]; exact idx9 W store k hlt
        clear hc hc'
        by_cases hcc : c' = c
        · have HN : Hid (hdV s 13 0 = hdV s (13 - (k + 1)) (k + 1)) := by
            show _ = _
            rw [hun, if_neg (by simpa using hcc)]
            congr 1
            omega
          subst hcc
          clear hun
          go_wp2_with fail
          go_quiet (fail)
          go_wp2
          go_roundw
          case rel => exact ⟨k + 1, by go_num, by omega, by omega, HN, r0, Below.drewN' bel _⟩
          case measure => simp [intOf]; omega
        · have HE : Hid (a = (none25, 20, k)) := by show _ = _; rw [HA.out, hun, if_pos hcc]
          have hcc' : ((c' : Int) != (c : Int)) = true := by simp; omega
          clear hun
          go_wp2_with fail
          go_quiet (fail)
          obtain ⟨st, hres, bel'⟩ := END.out (wr.drewN nq) r0.out (Below.drewN' bel _)
          have HF : Hid (((wr.drewN nq).setRow w.heap.size none25).heap[w.heap.size]? = some (.cells none25 51 (0, 0)) ∧ Below w.heap.size w ((wr.drewN nq).setRow w.heap.size none25)) := ⟨hres, bel'⟩
          clear hres bel'
          go_wp2_with fail
          exact bodyPost_ret (results_cell3 rfl _ _ w.heap.size z20 ⟨#[]⟩ rfl rfl HF.out.1) rfl ⟨by rw [HE.out]; rfl, HF.out.2⟩
    · have hk1 : ¬ ((k : Int) < 13) := by omega
      have hke : k = 13 := by omega
      subst hke
      obtain ⟨q, hq⟩ : ∃ q, q = pbV (s.extract 13 s.size) := ⟨_, rfl⟩
      have HA2 : Hid (a = if ¬ q.2.1 = 0 then (none25, q.2.1, 13 + q.2.2) else (q.1, 0, 0)) := by
        show _ = _
        rw [HA.out, HK.out, hq]
        rfl
      obtain ⟨r, hr⟩ : ∃ r, r = s.extract 13 s.size := ⟨_, rfl⟩
      have hr' : s.extract 13 s.size = r := hr.symm
      have hform := pbV_form r
      have CP : Hid (∀ W, Tx W → Calls Tryz.prog 64 #[.string r] W fun e w' => e = .returned (three q) ∧ Below W.heap.size W w') := fun W hW => by
        rw [hq, ← hr]; exact pbC_any r W hW
      rw [hr, ← hq] at hform
      have h13 : (13 : Int) ≤ (s.size : Int) := by omega
      clear hq hr HA HK
      rcases hform with ⟨f1, h, nm, hl, _, f2, f3⟩ | ⟨f1, f2, f3⟩
      · obtain ⟨q1, q2, q3⟩ := q
        simp only at f1 f2 f3
        subst f1 f2 f3
        replace HA2 : Hid (a = (lab h nm, 0, 0)) := HA2
        unfold three at CP
        go_wp2_with fail
        refine (CP.out _ (HT.out _ bel)).mono ?_
        rintro e W1 ⟨rfl, b1⟩
        have hG : w.heap.size < wr.heap.size := (Array.getElem?_eq_some_iff.1 r0.out).1
        have r1 : W1.heap[w.heap.size]? = some (.cells none25 51 (0, 0)) := (b1.block _ hG).trans r0.out
        have z1 : w.heap.size < W1.heap.size := (Array.getElem?_eq_some_iff.1 r1).1
        have bel1 : Below w.heap.size w W1 := bel.trans (b1.mono bel.size)
        have s1 : (storeR 51 (.pointer (some ⟨W1.heap.size, 0, none⟩)) (.agg (lab h nm))).run Tryz.prog (W1.alloc (.cells #[.int .u8 0, .int .u8 0, .int .u8 0, .int .u8 0, .int .u8 0, .int .u8 0, .int .u8 0, .int .u8 0, .int .u8 0, .int .u8 0, .int .u8 0, .int .u8 0, .int .u8 0, .int .u8 0, .int .u8 0, .int .u8 0, .int .u8 0, .int .u8 0, .int .u8 0, .int .u8 0, .string ⟨#[]⟩] 51)) = .ok () ((W1.alloc (.cells none25 51)).setRow W1.heap.size (lab h nm)) := run_storeR25 (W1.alloc (.cells none25 51)) W1.heap.size z20 h ⟨#[]⟩ nm (heap_alloc_new _ _) rfl hl
        obtain ⟨W2, hW2⟩ : ∃ W, W = (W1.alloc (.cells none25 51)).setRow W1.heap.size (lab h nm) := ⟨_, rfl⟩
        have rn : W2.heap[W1.heap.size]? = some (.cells (lab h nm) 51 (0, 0)) := by rw [hW2]; exact setRow_heap _ _ _ _ _ _ (heap_alloc_new _ _)
        have r2 : W2.heap[w.heap.size]? = some (.cells none25 51 (0, 0)) := by rw [hW2]; exact (setRow_other _ _ _ _ (by omega)).trans ((heap_alloc_old _ _ (h := z1)).trans r1)
        have bel2 : Below w.heap.size w W2 := by rw [hW2]; exact below_setRow (bel1.alloc (by omega) _) (by omega) _
        rw [← hW2] at s1
        have l2 := run_loadR25 W2 W1.heap.size h nm rn hl
        have s2 := run_storeR25 W2 w.heap.size z20 h ⟨#[]⟩ nm r2 rfl hl
        have hres : Hid ((W2.setRow w.heap.size (lab h nm)).heap[w.heap.size]? = some (.cells (lab h nm) 51 (0, 0))) := setRow_heap _ _ _ _ _ _ r2
        have bel3 : Hid (Below w.heap.size w (W2.setRow w.heap.size (lab h nm))) := below_setRow bel2 (Nat.le_refl _) _
        clear hW2 rn r2 r1 b1 bel1 bel2 z1
        go_wp2_with fail
        exact bodyPost_ret (results_cell3 rfl _ _ w.heap.size h nm hl rfl hres.out) rfl ⟨by rw [HA2.out]; rfl, bel3.out⟩
      · obtain ⟨q1, q2, q3⟩ := q
        simp only at f1 f2 f3
        subst f2
        replace HA2 : Hid (a = (none25, q2, 13 + q3)) := by
          show _ = _
          rw [HA2.out]
          exact if_pos f1
        unfold three at CP
        have f1' : ((q2 : Int) != 0) = true := by simp; omega
        have hadd : IntKind.i64.wrap (13 + (q3 : Int)) = 13 + (q3 : Int) := by rw [IntKind.wrap_i64]; omega
        go_wp2_with fail
        refine (CP.out _ (HT.out _ bel)).mono ?_
        rintro e W1 ⟨rfl, b1⟩
        have hG : w.heap.size < wr.heap.size := (Array.getElem?_eq_some_iff.1 r0.out).1
        have r1 : W1.heap[w.heap.size]? = some (.cells none25 51 (0, 0)) := (b1.block _ hG).trans r0.out
        have z1 : w.heap.size < W1.heap.size := (Array.getElem?_eq_some_iff.1 r1).1
        have bel1 : Below w.heap.size w W1 := bel.trans (b1.mono bel.size)
        have s1 : (storeR 51 (.pointer (some ⟨W1.heap.size, 0, none⟩)) (.agg none25)).run Tryz.prog (W1.alloc (.cells #[.int .u8 0, .int .u8 0, .int .u8 0, .int .u8 0, .int .u8 0, .int .u8 0, .int .u8 0, .int .u8 0, .int .u8 0, .int .u8 0, .int .u8 0, .int .u8 0, .int .u8 0, .int .u8 0, .int .u8 0, .int .u8 0, .int .u8 0, .int .u8 0, .int .u8 0, .int .u8 0, .string ⟨#[]⟩] 51)) = .ok () ((W1.alloc (.cells none25 51)).setRow W1.heap.size none25) := run_storeR25 (W1.alloc (.cells none25 51)) W1.heap.size z20 z20 ⟨#[]⟩ ⟨#[]⟩ (heap_alloc_new _ _) rfl rfl
        obtain ⟨W2, hW2⟩ : ∃ W, W = (W1.alloc (.cells none25 51)).setRow W1.heap.size none25 := ⟨_, rfl⟩
        have r2 : W2.heap[w.heap.size]? = some (.cells none25 51 (0, 0)) := by rw [hW2]; exact (setRow_other _ _ _ _ (by omega)).trans ((heap_alloc_old _ _ (h := z1)).trans r1)
        have bel2 : Below w.heap.size w W2 := by rw [hW2]; exact below_setRow (bel1.alloc (by omega) _) (by omega) _
        rw [← hW2] at s1
        obtain ⟨st, hres, bel'⟩ := END.out W2 r2 bel2
        have HF : Hid ((W2.setRow w.heap.size none25).heap[w.heap.size]? = some (.cells none25 51 (0, 0)) ∧ Below w.heap.size w (W2.setRow w.heap.size none25)) := ⟨hres, bel'⟩
        clear hW2 r2 r1 b1 bel1 bel2 z1 hres bel'
        go_wp2_with fail
        exact bodyPost_ret (results_cell3 rfl _ _ w.heap.size z20 ⟨#[]⟩ rfl rfl HF.out.1) rfl ⟨by rw [HA2.out]; simp [three]; rfl, HF.out.2⟩
end Go.Proofs.YtffghlbgbfhfdaaGreatDoor
