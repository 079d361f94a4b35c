/- Read: the code's. -/
import Derived.Test.YtkppejaigodgiabDoorFm
import Derived.Laws.CopyRow
namespace Go.Proofs.YtkppejaigodgiabDoor
open Go.RowKit
theorem size24' : (Tryd.prog.info? 24).map (·.size) = some 32 := by kernel_rfl
def ldR (v : Value) : Sem Value := Instr.loadAt 24 v
theorem toLd (v : Value) : Instr.loadAt 24 v = ldR v := rfl
theorem run_ld (w : World) (g : Nat) (l : List Nat) (hg : w.heap[g]? = some (.cells (bs l) 24 (0, 0))) (hl : l.length = 32) : (ldR (.pointer (some ⟨g, 0, none⟩))).run Tryd.prog w = .ok (.agg (bs l)) w := by
  unfold ldR
  simp only [Instr.loadAt, Instr.sureAddr, Sem.run_bind, Sem.run_pure, Result.andThen_ok, run_loadVar_row w g 24 24 (bs l) (0, 0) _ hg Tryd.underlying24 rfl (by rw [size24', bs_size, hl])]
def stR (p v : Value) : Sem Unit := Instr.storeAt 24 p v
theorem toSt (p v : Value) : Instr.storeAt 24 p v = stR p v := rfl
theorem run_st (w : World) (g : Nat) (old l : List Nat) (hg : w.heap[g]? = some (.cells (bs old) 24 (0, 0))) (h1 : old.length = 32) (h2 : l.length = 32) : (stR (.pointer (some ⟨g, 0, none⟩)) (.agg (bs l))).run Tryd.prog w = .ok () (w.setRow g (bs l)) := by
  unfold stR
  simp only [Instr.storeAt, Instr.sureAddr, Sem.run_bind, Sem.run_pure, Result.andThen_ok, run_storeVar_row w g 24 24 (bs old) (bs l) hg (by rw [size24', bs_size, h2]) (by rw [bs_size, bs_size, h1, h2]) (bs_one _)]
def bdR (ps : Array (Nat × Value)) : Sem Value := Instr.build 24 ps
theorem toBd (ps : Array (Nat × Value)) : Instr.build 24 ps = bdR ps := rfl
theorem run_bd (w : World) : (bdR #[]).run Tryd.prog w = .ok (.agg (bs z32)) w := run_build w 24 _ _ (by kernel_rfl)
def cpR (ty : Nat) (vs : Array Value) : Sem Value := Builtin.copy_ #[22, 22] ty vs
theorem toCp (ty : Nat) (vs : Array Value) : Builtin.copy_ #[22, 22] ty vs = cpR ty vs := rfl
theorem run_cp (w : World) (ty G : Nat) (l : List Nat) (hl : l.length = 32) (v : Value) (base n : Nat) (hG : w.heap[G]? = some (.cells (bs z32) 24 (0, 0))) (hv : w.ownsRow base 5 1 v n (bs l).toList) :
    (cpR ty #[.slice (some ⟨G, 0, none⟩) 32 32, v]).run Tryd.prog w = .ok (.int .i64 32) (w.setRow G (bs l)) := by
  have hlen : (bs l).toList.length = 32 := by rw [Array.length_toList, bs_size, hl]
  have hy := (byl_own hv).1
  rcases hy with ⟨_, rfl⟩ | ⟨b, off, cap, rfl, h1, h2, h3, h4⟩
  · simp at hl
  · have := run_copy_row (P := Tryd.prog) w 22 22 ty 5 G 0 32 32 ⟨b, off, none⟩ l.length cap (bs z32) 24 (bs l).toList Tryd.underlying22 size5 hG (by rw [hlen, hl]; rfl) (fun j v hv => by
      have hj : j < 32 := by have := (List.getElem?_eq_some_iff.1 hv).1; omega
      rw [Addr.add_mid, h4 j (by omega)]
      rw [Array.getElem?_toList, bs_get _ _ (by omega)] at hv
      exact hv) (by rw [hlen, bs_size]; decide) (fun v hv => by
      rw [bs_toList] at hv
      obtain ⟨x, _, rfl⟩ := List.mem_map.1 hv
      rfl)
    unfold cpR
    rw [this, hlen]
    have e : ((bs z32).toList.take 0 ++ (bs l).toList ++ (bs z32).toList.drop (0 + 32)).toArray = bs l := by
      apply Array.ext'
      simp [bs, z32]
    rw [e]
    rfl
theorem res4 {fn : Func} {p u v x : Tmp} (h : fn.results = #[.cell p 24, .tmp u, .tmp v, .tmp x]) (tmps : Array Value) (w : World) (g : Nat) (k : List Nat) (hk : k.length = 32)
    (hp : tmps.getD p undef = .pointer (some ⟨g, 0, none⟩)) (hg : w.heap[g]? = some (.cells (bs k) 24 (0, 0))) :
    (results fn tmps).run Tryd.prog w = .ok (.tuple #[.agg (bs k), tmps.getD u undef, tmps.getD v undef, tmps.getD x undef]) w := by
  have hp' : tmps[p]?.getD undef = .pointer (some ⟨g, 0, none⟩) := by simpa using hp
  simp [results, h, hp', asAddr, run_loadVar_row w g 24 24 (bs k) (0, 0) _ hg Tryd.underlying24 rfl (by rw [size24', bs_size, hk])]
theorem noFill_len (t : List Nat) : (noFill t).length ≤ t.length := by
  obtain ⟨f, _, hf⟩ := noFill_form t
  have h2 := congrArg List.length hf
  rw [List.length_append] at h2
  omega
theorem unF_place (f : Nat) (t : List Nat) : (unF f t).2.2 ≤ t.length := by
  have h1 := fuL_le D16 t
  have h2 := fuL_le D32 t
  have h3 := fuL_le D64 (noFill t)
  have h4 := noFill_len t
  unfold unF
  split
  · show (v64E t).2 ≤ t.length
    unfold v64E
    split
    · simp
    split
    · simp only; omega
    split
    · simp only; omega
    · simp
  · split
    · show (v32E t).2 ≤ t.length
      unfold v32E
      split
      · simp only; omega
      split
      · simp
      split
      · simp
      · simp
    · show (hexE t).2 ≤ t.length
      unfold hexE
      split
      · simp only; omega
      split
      · simp
      · simp
def four (a : List Nat × Nat × Nat × Nat) : Value := .tuple #[.agg (bs a.1), .int .i64 ((a.2.1 : Nat) : Int), .int .i64 ((a.2.2.1 : Nat) : Int), .int .i64 ((a.2.2.2 : Nat) : Int)]
attribute [local go_sem ↓] toLd toSt toBd toCp
set_option maxRecDepth 100000 in
set_option maxHeartbeats 3200000 in
theorem read_any (s : ByteArray) (hs : s.size ≤ 187649984473770) (w : World) (ht : Tx w) :
    Calls Tryd.prog 24 #[.string s] w fun e w' => e = .returned (four (rdV (tl s))) ∧ Below w.heap.size w w' := by
  have hsz := ht.sz
  obtain ⟨W0, hW0⟩ : ∃ W0, w.alloc (.cells #[.int .u8 0, .int .u8 0, .int .u8 0, .int .u8 0, .int .u8 0, .int .u8 0, .int .u8 0, .int .u8 0, .int .u8 0, .int .u8 0, .int .u8 0, .int .u8 0, .int .u8 0, .int .u8 0, .int .u8 0, .int .u8 0, .int .u8 0, .int .u8 0, .int .u8 0, .int .u8 0, .int .u8 0, .int .u8 0, .int .u8 0, .int .u8 0, .int .u8 0, .int .u8 0, .int .u8 0, .int .u8 0, .int .u8 0, .int .u8 0, .int .u8 0, .int .u8 0] 24) = W0 := ⟨_, rfl⟩
  have H0 : Hid (Below w.heap.size w W0 ∧ W0.heap[w.heap.size]? = some (.cells (bs z32) 24 (0, 0)) ∧ w.heap.size < W0.heap.size) := by
    rw [← hW0]
    exact ⟨(Below.refl _ w).alloc (Nat.le_refl _) _, heap_alloc_new _ _, by simp⟩
  have END : Hid (∀ (W : World), W.heap[w.heap.size]? = some (.cells (bs z32) 24 (0, 0)) → Below w.heap.size w W → (stR (.pointer (some ⟨w.heap.size, 0, none⟩)) (.agg (bs z32))).run Tryd.prog W = .ok () (W.setRow w.heap.size (bs z32)) ∧ Hid ((W.setRow w.heap.size (bs z32)).heap[w.heap.size]? = some (.cells (bs z32) 24 (0, 0)) ∧ Below w.heap.size w (W.setRow w.heap.size (bs z32)))) := fun W hr hb =>
    ⟨run_st W w.heap.size z32 z32 hr rfl rfl, setRow_heap _ _ _ _ _ _ hr, below_setRow hb (Nat.le_refl _) _⟩
  have bd := run_bd
  have HT : Hid (∀ W, Below w.heap.size w W → Tx W) := fun W h => ht.below h hsz
  have FM := formOf_any s (by omega) W0
  obtain ⟨a, ha⟩ : ∃ a, a = rdV (tl s) := ⟨_, rfl⟩
  rw [← ha]
  have HA : Hid (a = rdV (tl s)) := ha
  clear ha ht
  cases hf : fmL (tl s) with
  | none =>
    have hE : Hid (a = (z32, 0, 12, max (shL (tl s) colonL) (shL (tl s) dashL))) := by show _ = _; rw [HA.out]; unfold rdV; rw [hf]
    have hR : fmR (tl s) = (0, 12, max (shL (tl s) colonL) (shL (tl s) dashL)) := by unfold fmR; rw [hf]
    rw [hR] at FM
    clear hf hR HA
    go_enter Tryd.func24, Tryd.ntmps24
    go_wp2_with fail
    refine FM.mono ?_
    rintro e W1 ⟨rfl, b1⟩
    obtain ⟨st, HF⟩ := END.out W1 ((b1.block _ H0.out.2.2).trans H0.out.2.1) (H0.out.1.trans (b1.mono (Nat.le_of_lt H0.out.2.2)))
    go_wp2
    exact bodyPost_ret (res4 rfl _ _ w.heap.size z32 rfl rfl HF.out.1) rfl ⟨by rw [hE.out]; rfl, HF.out.2⟩
  | some f =>
    have hR : fmR (tl s) = (f, 0, 0) := by unfold fmR; rw [hf]
    rw [hR] at FM
    have hf3 : f < 3 ∧ 7 ≤ s.size := by
      have hl := tl_len s
      rcases fmL_form hf with ⟨rfl, _, h⟩ | ⟨rfl, _, h⟩ | ⟨rfl, _, h⟩ <;> omega
    obtain ⟨hf3, h7⟩ := hf3
    obtain ⟨r, hr⟩ : ∃ r, s.extract 7 s.size = r := ⟨_, rfl⟩
    have htr : tl r = (tl s).drop 7 := by rw [← hr]; exact tl_drop s 7 h7
    have hrs : r.size ≤ 187649984473770 := by rw [← hr, ByteArray.size_extract]; omega
    obtain ⟨u, hu⟩ : ∃ u, u = unF f ((tl s).drop 7) := ⟨_, rfl⟩
    have HV : Hid (a = if ¬ u.2.1 = 0 then (z32, 0, u.2.1, u.2.2 + 7) else if ¬ u.1.length = 32 then (z32, 0, 12, 7) else (u.1, f, 0, 0)) := by
      show _ = _
      rw [HA.out]
      unfold rdV
      rw [hf, hu]
    have CF : Hid (∀ W, Tx W → Calls Tryd.prog 45 #[.string r, .int .i64 (f : Int)] W (RdP u.1 u.2 W)) := fun W h => by
      rw [hu, ← htr]; exact readForm_any r hrs f hf3 W h
    have h7' : (7 : Int) ≤ (s.size : Int) := by omega
    have hP63 : Hid (u.2.2 ≤ s.size) := by
      show _ ≤ _
      rw [hu]
      refine Nat.le_trans (unF_place f _) ?_
      rw [List.length_drop, tl_len]
      omega
    obtain ⟨L, E, P⟩ := u
    replace hP63 : Hid (P ≤ s.size) := hP63
    have hP7 : IntKind.i64.wrap ((P : Int) + 7) = ((P + 7 : Nat) : Int) := by have := hP63.out; rw [IntKind.wrap_i64]; omega
    clear hf hR HA hu htr
    go_enter Tryd.func24, Tryd.ntmps24
    go_wp2_with fail
    refine FM.mono ?_
    rintro e W1 ⟨rfl, b1⟩
    have H1 : Hid (Below w.heap.size w W1 ∧ W1.heap[w.heap.size]? = some (.cells (bs z32) 24 (0, 0)) ∧ w.heap.size < W1.heap.size) :=
      ⟨H0.out.1.trans (b1.mono (Nat.le_of_lt H0.out.2.2)), (b1.block _ H0.out.2.2).trans H0.out.2.1, Nat.lt_of_lt_of_le H0.out.2.2 b1.size⟩
    clear b1 hW0 FM
    go_wp2_with fail
    refine (CF.out W1 (HT.out W1 H1.out.1)).mono ?_
    rintro e W2 ⟨b2, v, rfl, hv⟩
    have H2 : Hid (Below w.heap.size w W2 ∧ W2.heap[w.heap.size]? = some (.cells (bs z32) 24 (0, 0)) ∧ w.heap.size < W2.heap.size) :=
      ⟨H1.out.1.trans (b2.mono (Nat.le_of_lt H1.out.2.2)), (b2.block _ H1.out.2.2).trans H1.out.2.1, Nat.lt_of_lt_of_le H1.out.2.2 b2.size⟩
    have hb1 := H1.out.2.2
    clear b2
    by_cases hE0 : E = 0
    · subst hE0
      have hv' : W2.ownsRow W1.heap.size 5 1 v L.length (bs L).toList := hv
      have hbyl := (byl_own hv').1
      obtain ⟨o, c, rfl, _, _, _⟩ := hbyl.form
      have HO : Hid (W2.ownsRow W1.heap.size 5 1 (.slice o L.length c) L.length (bs L).toList) := hv'
      clear hv hv' hbyl
      obtain ⟨W3, hW3⟩ : ∃ W3, W2.alloc (.cells #[.int .u8 0, .int .u8 0, .int .u8 0, .int .u8 0, .int .u8 0, .int .u8 0, .int .u8 0, .int .u8 0, .int .u8 0, .int .u8 0, .int .u8 0, .int .u8 0, .int .u8 0, .int .u8 0, .int .u8 0, .int .u8 0, .int .u8 0, .int .u8 0, .int .u8 0, .int .u8 0, .int .u8 0, .int .u8 0, .int .u8 0, .int .u8 0, .int .u8 0, .int .u8 0, .int .u8 0, .int .u8 0, .int .u8 0, .int .u8 0, .int .u8 0, .int .u8 0] 24) = W3 := ⟨_, rfl⟩
      have H3 : Hid (Below w.heap.size w W3 ∧ W3.heap[w.heap.size]? = some (.cells (bs z32) 24 (0, 0)) ∧ W3.heap[W2.heap.size]? = some (.cells (bs z32) 24 (0, 0)) ∧ W3.ownsRow W1.heap.size 5 1 (.slice o L.length c) L.length (bs L).toList) := by
        rw [← hW3]
        exact ⟨H2.out.1.alloc (Nat.le_of_lt H2.out.2.2) _, (heap_alloc_old _ _ (h := H2.out.2.2)).trans H2.out.2.1, heap_alloc_new _ _, HO.out.alloc _⟩
      by_cases h32 : L.length = 32
      · have h32' : (L.length : Int) = 32 := by omega
        have hE : Hid (a = (L, f, 0, 0)) := by show _ = _; rw [HV.out]; simp [h32]
        have cp := fun ty => run_cp W3 ty W2.heap.size L h32 _ W1.heap.size L.length H3.out.2.2.1 H3.out.2.2.2
        obtain ⟨W4, hW4⟩ : ∃ W, W = W3.setRow W2.heap.size (bs L) := ⟨_, rfl⟩
        have hne : w.heap.size ≠ W2.heap.size := by have := H2.out.2.2; omega
        have H4 : Hid (W4.heap[w.heap.size]? = some (.cells (bs z32) 24 (0, 0)) ∧ Below w.heap.size w W4) := by
          rw [hW4]
          exact ⟨(setRow_other _ _ _ _ hne).trans H3.out.2.1, below_setRow H3.out.1 (Nat.le_of_lt H2.out.2.2) _⟩
        have ld : (ldR (.pointer (some ⟨W2.heap.size, 0, none⟩))).run Tryd.prog W4 = .ok (.agg (bs L)) W4 := by
          rw [hW4]; exact run_ld _ _ L (setRow_heap _ _ _ _ _ _ H3.out.2.2.1) h32
        have st := run_st W4 w.heap.size z32 L H4.out.1 rfl h32
        have HF : Hid ((W4.setRow w.heap.size (bs L)).heap[w.heap.size]? = some (.cells (bs L) 24 (0, 0)) ∧ Below w.heap.size w (W4.setRow w.heap.size (bs L))) := ⟨setRow_heap _ _ _ _ _ _ H4.out.1, below_setRow H4.out.2 (Nat.le_refl _) _⟩
        rw [← hW4] at cp
        rw [h32] at cp ⊢
        clear hW4 h32' HV HO
        go_wp2
        exact bodyPost_ret (res4 rfl _ _ w.heap.size L h32 rfl HF.out.1) rfl ⟨by rw [hE.out]; rfl, HF.out.2⟩
      · have h32' : ¬ ((L.length : Int) = 32) := by omega
        have hE : Hid (a = (z32, 0, 12, 7)) := by show _ = _; rw [HV.out]; simp [h32]
        obtain ⟨st, HF⟩ := END.out W3 H3.out.2.1 H3.out.1
        clear HV HO
        go_wp2
        exact bodyPost_ret (res4 rfl _ _ w.heap.size z32 rfl rfl HF.out.1) rfl ⟨by rw [hE.out]; rfl, HF.out.2⟩
    · have hE0' : ¬ ((E : Int) = 0) := by omega
      have hE : Hid (a = (z32, 0, E, P + 7)) := by show _ = _; rw [HV.out]; simp [hE0]
      obtain ⟨st, HF⟩ := END.out W2 H2.out.2.1 H2.out.1
      clear HV hv
      go_wp2
      exact bodyPost_ret (res4 rfl _ _ w.heap.size z32 rfl rfl HF.out.1) rfl ⟨by rw [hE.out]; rfl, HF.out.2⟩
end Go.Proofs.YtkppejaigodgiabDoor
