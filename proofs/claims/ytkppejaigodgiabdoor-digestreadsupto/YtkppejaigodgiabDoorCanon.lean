/- DigestCanon's walk. -/
import Derived.Test.YtkppejaigodgiabDoorRd
namespace Go.Proofs.YtkppejaigodgiabDoor
open Go.RowKit
theorem i64_and3 (f : Int) : bits BinOp.and IntKind.i64 f 3 = (((f % 4).toNat : Nat) : Int) := by
  have h1 : (BitVec.ofInt 64 3).toNat = 2 ^ 2 - 1 := by decide
  show IntKind.i64.wrap ((BitVec.ofInt 64 f &&& BitVec.ofInt 64 3).toNat : Nat) = _
  rw [BitVec.toNat_and, BitVec.toNat_ofInt, h1, Nat.and_two_pow_sub_one_eq_mod, IntKind.wrap_i64]
  omega
theorem str_app (a b : List Nat) : str (a ++ b) = str a ++ str b := by
  apply ByteArray.ext
  rw [ByteArray.data_append]
  simp [str, strOfNums]
theorem str_colon : str colonL = colon := by decide +kernel
theorem str_dash : str dashL = dash := by decide +kernel
theorem showV_shw (s : List Nat) (f : Nat) (hf : f < 4) : showV s (f : Int) = .string (str (shwL s f)) := by
  have : f = 0 ∨ f = 1 ∨ f = 2 ∨ f = 3 := by omega
  rcases this with rfl | rfl | rfl | rfl
  · show Value.string (colon ++ str (hexL s)) = .string (str (colonL ++ hexL s))
    rw [str_app, str_colon]
  · show Value.string (colon ++ str (b32L s)) = .string (str (colonL ++ b32L s))
    rw [str_app, str_colon]
  · show Value.string (dash ++ str (b64L s)) = .string (str (dashL ++ b64L s))
    rw [str_app, str_dash]
  · rfl
theorem mem_idx {D : List Nat} {c : Nat} (hD : ∀ x ∈ D, x < 256) (h : D.idxOf c < D.length) : c < 256 := by
  have e : D[D.idxOf c]'h = c := List.getElem_idxOf h
  rw [← e]
  exact hD _ (List.getElem_mem h)
theorem shw_byt (s : List Nat) (hb : ∀ x ∈ s, x < 256) (f : Nat) : ∀ c ∈ shwL s f, c < 256 := by
  have hD16 : ∀ x ∈ D16, x < 256 := by decide
  have hD32 : ∀ x ∈ D32, x < 256 := by decide
  have hD64 : ∀ x ∈ D64, x < 256 := by decide
  have hc : ∀ x ∈ colonL, x < 256 := by decide
  have hd : ∀ x ∈ dashL, x < 256 := by decide
  have k16 := hexL_known s hb
  have k32 : ∀ c ∈ b32L s, c < 256 := fun c hc => by
    obtain ⟨j, _, rfl⟩ := List.mem_map.1 hc
    exact mem_idx hD32 (by rw [kv_g32 ⟨_, v32_lt s _⟩]; exact v32_lt s _)
  have k64 : ∀ c ∈ b64L s, c < 256 := fun c hc => by
    obtain ⟨i1, ⟨f, hf, i2⟩, i3⟩ := dg_all _ s (Nat.le_refl _) hb
    rw [i2] at hc
    rcases List.mem_append.1 hc with h | h
    · exact mem_idx hD64 (i1 c h).1
    · have := (List.mem_replicate.1 h).2; omega
  intro c h
  unfold shwL at h
  split at h
  · rcases List.mem_append.1 h with h | h
    · exact hc c h
    · exact mem_idx hD16 (k16 c h)
  split at h
  · rcases List.mem_append.1 h with h | h
    · exact hc c h
    · exact k32 c h
  split at h
  · rcases List.mem_append.1 h with h | h
    · exact hd c h
    · exact k64 c h
  · cases h
theorem shw_len (s : List Nat) (hl : s.length = 32) (f : Nat) : (shwL s f).length ≤ 71 := by
  unfold shwL
  split
  · rw [List.length_append, hexL_len, hl]; decide
  split
  · rw [List.length_append, b32L_len, hl]; decide
  split
  · rw [List.length_append, b64L_len _ s (Nat.le_refl _), hl]; decide
  · decide
theorem rd_nil : rdV [] = (z32, 0, 12, 0) := by decide +kernel
/-- What holds at each moment. -/
structure Cn (sm tm : List Nat) (G T : Nat) (w W : World) : Prop where
  bel : Below G w W
  tx : Tx W
  a : W.heap[G]? = some (.cells (bs sm) 24 (0, 0))
  b : W.heap[T]? = some (.cells (bs tm) 24 (0, 0))
  gt : G < T
  sz : T < W.heap.size
theorem Cn.below {sm tm : List Nat} {G T : Nat} {w W W' : World} (h : Cn sm tm G T w W) (b : Below W.heap.size W W') : Cn sm tm G T w W' :=
  have hs := h.sz
  have hg := h.gt
  ⟨h.bel.trans (b.mono (by omega)), h.tx.below b h.tx.sz, (b.block _ (by omega)).trans h.a, (b.block _ hs).trans h.b, hg, Nat.lt_of_lt_of_le hs b.size⟩
theorem eq24 (w : World) (a b : List Nat) (ha : a.length = 32) (hb : b.length = 32) : (Op.equalIn 10000 24 (.agg (bs a)) (.agg (bs b))).run Tryd.prog w = .ok (decide (a = b)) w :=
  run_equalIn_bs w 9998 Tryd.underlying24 Tryd.underlying5 size5 a b ha hb
attribute [local go_sem ↓] toLd toSt
set_option maxRecDepth 100000 in
set_option maxHeartbeats 6400000 in
theorem canon_any (s : ByteArray) (hs : s.size ≤ 1048576) (sm : List Nat) (hsl : sm.length = 32) (hsb : Byt sm) (f : Int) (w : World) (ht : Tx w) :
    Calls Tryd.prog 5 #[.string s, .agg (bs sm), .int .i64 f] w fun e w' => e = .returned (.bool true) ∧ Below w.heap.size w w' := by
  obtain ⟨φ, hφ⟩ : ∃ φ, φ = (f % 4).toNat := ⟨_, rfl⟩
  have hφ4 : φ < 4 := by omega
  have hand : bits BinOp.and IntKind.i64 f 3 = (φ : Int) := by rw [hφ]; exact i64_and3 f
  clear hφ
  obtain ⟨W0, hW0⟩ : ∃ W0, w.alloc (.cells (bs sm) 24) = W0 := ⟨_, rfl⟩
  have H0 : Hid (Below w.heap.size w W0 ∧ W0.heap[w.heap.size]? = some (.cells (bs sm) 24 (0, 0)) ∧ w.heap.size < W0.heap.size) := by
    rw [← hW0]
    exact ⟨(Below.refl _ w).alloc (Nat.le_refl _) _, heap_alloc_new _ _, by simp⟩
  have HT : Hid (∀ W, Below w.heap.size w W → Tx W) := fun W h => ht.below h ht.sz
  obtain ⟨X, hX⟩ : ∃ X, X = str (shwL sm φ) := ⟨_, rfl⟩
  have hXt : tl X = shwL sm φ := by rw [hX]; exact byt_str _ (shw_byt sm hsb φ)
  have hXs : X.size ≤ 71 := by rw [hX, str_size]; exact shw_len sm hsl φ
  have CS : Hid (∀ W, Tx W → Calls Tryd.prog 16 #[.agg (bs sm), .int .i64 (φ : Int)] W fun e w' => e = .returned (.string X) ∧ Below W.heap.size W w') := fun W h => by
    have := showC_any sm hsl hsb (φ : Int) W h
    rw [showV_shw sm φ hφ4, ← hX] at this
    exact this
  have CR : Hid (∀ W, Tx W → Calls Tryd.prog 24 #[.string X] W fun e w' => e = .returned (four (rdV (shwL sm φ))) ∧ Below W.heap.size W w') := fun W h => by
    rw [← hXt]; exact read_any X (by omega) W h
  have CT : Hid (∀ W, Tx W → Calls Tryd.prog 24 #[.string s] W fun e w' => e = .returned (four (rdV (tl s))) ∧ Below W.heap.size W w') := fun W h => read_any s (by omega) W h
  have CH : Hid (∀ W, Tx W → Calls Tryd.prog 20 #[.string s] W (RdP (hexV (tl s)) (hexE (tl s)) W)) := fun W h => unhex_any s (by omega) W h
  have CB : Hid (∀ W, Tx W → Calls Tryd.prog 21 #[.string s] W (RdP (v32V (tl s)) (v32E (tl s)) W)) := fun W h => un32_any s (by omega) W h
  have CC : Hid (∀ W, Tx W → Calls Tryd.prog 22 #[.string s] W (RdP (v64V (tl s)) (v64E (tl s)) W)) := fun W h => un64_any s (by omega) W h
  have htl := tl_len s
  have MH : Hid ((hexE (tl s)).1 = 0 → ∀ v W, Tx W → Byl v (hexV (tl s)) W → Calls Tryd.prog 10 #[v] W fun e w' => e = .returned (.string s) ∧ Below W.heap.size W w') := fun h v W hT hy => by
    have := hexC_any (hexV (tl s)) (hexV_byt h) (by rw [hexV_len _ _ (Nat.le_refl _)]; omega) v W hy hT
    rw [hex_canon h] at this
    have e : txt (tl s) = .string s := congrArg Value.string (str_tl s)
    rw [e] at this
    exact this
  have MB : Hid ((v32E (tl s)).1 = 0 → ∀ v W, Tx W → Byl v (v32V (tl s)) W → Calls Tryd.prog 12 #[v] W fun e w' => e = .returned (.string s) ∧ Below W.heap.size W w') := fun h v W hT hy => by
    have := b32C_any (v32V (tl s)) (byts_byt _ _) (by unfold v32V; rw [byts_len]; omega) v W hy hT
    rw [b32_canon h] at this
    have e : txt (tl s) = .string s := congrArg Value.string (str_tl s)
    rw [e] at this
    exact this
  have MC : Hid ((v64E (tl s)).1 = 0 → ∀ v W, Tx W → Byl v (v64V (tl s)) W → Calls Tryd.prog 14 #[v] W fun e w' => e = .returned (.string s) ∧ Below W.heap.size W w') := fun h v W hT hy => by
    have hn := noFill_len (tl s)
    have hl : (v64V (tl s)).length ≤ 1099511627776 := by
      obtain ⟨_, _, h2, _⟩ := v64E_ok h
      have := (s64_inv (noFill (tl s)) (fun j hj => fuL_all D64 _ h2 j hj) (noFill (tl s)).length (Nat.le_refl _)).2.2
      unfold v64V
      rw [this]
      omega
    have := b64C_any (v64V (tl s)) (v64V_byt h) hl v W hy hT
    rw [b64_canon h] at this
    have e : txt (tl s) = .string s := congrArg Value.string (str_tl s)
    rw [e] at this
    exact this
  have MR : Hid ((rdV (tl s)).2.2.1 = 0 → ∀ W, Tx W → Calls Tryd.prog 16 #[.agg (bs (rdV (tl s)).1), .int .i64 (((rdV (tl s)).2.1 : Nat) : Int)] W fun e w' => e = .returned (.string s) ∧ Below W.heap.size W w') := fun h W hT => by
    obtain ⟨h1, h2, h3, h4⟩ := rd_canon h
    have := showC_any (rdV (tl s)).1 h2 h3 (((rdV (tl s)).2.1 : Nat) : Int) W hT
    rw [showV_shw _ _ (by omega), h1, str_tl] at this
    exact this
  have RL : Hid ((rdV (tl s)).1.length = 32) := by
    by_cases h : (rdV (tl s)).2.2.1 = 0
    · exact (rd_canon h).2.1
    · show _ = _
      unfold rdV at h ⊢
      cases hf : fmL (tl s) with
      | none => rfl
      | some g =>
        rw [hf] at h
        simp only at h ⊢
        by_cases h1 : (unF g ((tl s).drop 7)).2.1 = 0
        · by_cases h2 : (unF g ((tl s).drop 7)).1.length = 32
          · rw [if_neg (by omega), if_neg (by omega)] at h; exact absurd rfl h
          · rw [if_neg (by omega), if_pos h2]; rfl
        · rw [if_pos h1]; rfl
  have HRB : Hid (φ < 3 → rdV (shwL sm φ) = (sm, φ, 0, 0)) := fun h => rd_back sm hsl hsb φ h
  have HRN : Hid (φ = 3 → rdV (shwL sm φ) = (z32, 0, 12, 0) ∧ X = ⟨#[]⟩) := fun h => by
    subst h
    exact ⟨rd_nil, by rw [hX]; rfl⟩
  have ld0 := run_ld W0 w.heap.size sm H0.out.2.1 hsl
  obtain ⟨⟨EH, PH⟩, hEH⟩ : ∃ x, x = hexE (tl s) := ⟨_, rfl⟩
  obtain ⟨LH, hLH⟩ : ∃ x, x = hexV (tl s) := ⟨_, rfl⟩
  obtain ⟨⟨EB, PB⟩, hEB⟩ : ∃ x, x = v32E (tl s) := ⟨_, rfl⟩
  obtain ⟨LB, hLB⟩ : ∃ x, x = v32V (tl s) := ⟨_, rfl⟩
  obtain ⟨⟨EC, PC⟩, hEC⟩ : ∃ x, x = v64E (tl s) := ⟨_, rfl⟩
  obtain ⟨LC, hLC⟩ : ∃ x, x = v64V (tl s) := ⟨_, rfl⟩
  obtain ⟨⟨t2, k2, e2, p2⟩, hRD⟩ : ∃ x, x = rdV (tl s) := ⟨_, rfl⟩
  rw [← hEH, ← hLH] at CH MH
  rw [← hEB, ← hLB] at CB MB
  rw [← hEC, ← hLC] at CC MC
  rw [← hRD] at CT MR RL
  replace MR : Hid (e2 = 0 → ∀ W, Tx W → Calls Tryd.prog 16 #[.agg (bs t2), .int .i64 (k2 : Int)] W fun e w' => e = .returned (.string s) ∧ Below W.heap.size W w') := MR
  replace RL : Hid (t2.length = 32) := RL
  clear htl hX hXt hXs ht hEH hLH hEB hLB hEC hLC hRD
  have eqA : ∀ W, (Op.equalIn 10000 24 (.agg (bs sm)) (.agg (bs sm))).run Tryd.prog W = .ok true W := fun W => by rw [eq24 W sm sm hsl hsl]; simp
  have HL : Hid (∀ W tm T, Cn sm tm w.heap.size T w W → (ldR (.pointer (some ⟨w.heap.size, 0, none⟩))).run Tryd.prog W = .ok (.agg (bs sm)) W) := fun W tm T h => run_ld W _ sm h.a hsl
  have HM : Hid (∀ W tm T, tm.length = 32 → Cn sm tm w.heap.size T w W → (ldR (.pointer (some ⟨T, 0, none⟩))).run Tryd.prog W = .ok (.agg (bs tm)) W) := fun W tm T hl h => run_ld W _ tm h.b hl
  go_enter Tryd.func5, Tryd.ntmps5
  go_wp2_with fail
  refine (CS.out W0 (HT.out W0 H0.out.1)).mono ?_
  rintro e W1 ⟨rfl, b1⟩
  have H1 : Hid (Below w.heap.size w W1 ∧ W1.heap[w.heap.size]? = some (.cells (bs sm) 24 (0, 0)) ∧ w.heap.size < W1.heap.size) :=
    ⟨H0.out.1.trans (b1.mono (Nat.le_of_lt H0.out.2.2)), (b1.block _ H0.out.2.2).trans H0.out.2.1, Nat.lt_of_lt_of_le H0.out.2.2 b1.size⟩
  clear b1 hW0 H0 ld0
  go_wp2_with fail
  refine (CR.out W1 (HT.out W1 H1.out.1)).mono ?_
  rintro e W2 ⟨rfl, b2⟩
  have H2 : Hid (Below w.heap.size w W2 ∧ W2.heap[w.heap.size]? = some (.cells (bs sm) 24 (0, 0)) ∧ w.heap.size < W2.heap.size) :=
    ⟨H1.out.1.trans (b2.mono (Nat.le_of_lt H1.out.2.2)), (b2.block _ H1.out.2.2).trans H1.out.2.1, Nat.lt_of_lt_of_le H1.out.2.2 b2.size⟩
  clear b2 H1 CR
  obtain ⟨WZ, hWZ⟩ : ∃ WZ, W2.alloc (.cells #[.int .u8 0, .int .u8 0, .int .u8 0, .int .u8 0, .int .u8 0, .int .u8 0, .int .u8 0, .int .u8 0, .int .u8 0, .int .u8 0, .int .u8 0, .int .u8 0, .int .u8 0, .int .u8 0, .int .u8 0, .int .u8 0, .int .u8 0, .int .u8 0, .int .u8 0, .int .u8 0, .int .u8 0, .int .u8 0, .int .u8 0, .int .u8 0, .int .u8 0, .int .u8 0, .int .u8 0, .int .u8 0, .int .u8 0, .int .u8 0, .int .u8 0, .int .u8 0] 24) = WZ := ⟨_, rfl⟩
  have CZ : Hid (Cn sm z32 w.heap.size W2.heap.size w WZ) := by
    have hb : Below w.heap.size w WZ := by rw [← hWZ]; exact H2.out.1.alloc (Nat.le_of_lt H2.out.2.2) _
    refine ⟨hb, HT.out WZ hb, ?_, ?_, H2.out.2.2, ?_⟩
    · rw [← hWZ]; exact (heap_alloc_old _ _ (h := H2.out.2.2)).trans H2.out.2.1
    · rw [← hWZ]; exact heap_alloc_new _ _
    · rw [← hWZ]; simp
  have ST : Hid (∀ (tm tn : List Nat) T W, tm.length = 32 → tn.length = 32 → Cn sm tm w.heap.size T w W → (stR (.pointer (some ⟨T, 0, none⟩)) (.agg (bs tn))).run Tryd.prog W = .ok () (W.setRow T (bs tn)) ∧ Hid (Cn sm tn w.heap.size T w (W.setRow T (bs tn)))) := fun tm tn T W h1 h2 h => by
    have hb := below_setRow h.bel (Nat.le_of_lt h.gt) (bs tn)
    refine ⟨run_st W T tm tn h.b h1 h2, hb, HT.out _ hb, (setRow_other _ _ _ _ (Nat.ne_of_lt h.gt)).trans h.a, setRow_heap _ _ _ _ _ _ h.b, h.gt, by simpa using h.sz⟩
  have hz32 : z32.length = 32 := rfl
  by_cases h3 : φ < 3
  case' pos =>
    have h3' : (φ : Int) < 3 := by omega
    have h3n : ¬ ((φ : Int) = 3) := by omega
    rw [HRB.out h3]
    unfold four
    obtain ⟨st, SZ⟩ := ST.out z32 sm _ WZ hz32 hsl CZ.out
    obtain ⟨tm, htm⟩ : ∃ l, l = sm := ⟨_, rfl⟩
    have HTM : Hid (tm.length = 32) := by rw [htm]; exact hsl
    obtain ⟨W3, hW3⟩ : ∃ W, W = WZ.setRow W2.heap.size (bs sm) := ⟨_, rfl⟩
    have S3 : Hid (Cn sm tm w.heap.size W2.heap.size w W3) := by rw [hW3, htm]; exact SZ.out
    rw [← hW3] at st
    have l1 := HL.out W3 _ _ S3.out
    have l2 := HM.out W3 _ _ HTM.out S3.out
    rw [htm] at l2
    clear hW3 SZ CZ htm
    go_wp2_with fail
  case' neg =>
    have h3e : φ = 3 := by omega
    subst h3e
    obtain ⟨r1, rfl⟩ := HRN.out rfl
    rw [r1]
    unfold four
    obtain ⟨st, SZ⟩ := ST.out z32 z32 _ WZ hz32 hz32 CZ.out
    obtain ⟨tm, htm⟩ : ∃ l, l = z32 := ⟨_, rfl⟩
    have HTM : Hid (tm.length = 32) := by rw [htm]; exact hz32
    obtain ⟨W3, hW3⟩ : ∃ W, W = WZ.setRow W2.heap.size (bs z32) := ⟨_, rfl⟩
    have S3 : Hid (Cn sm tm w.heap.size W2.heap.size w W3) := by rw [hW3, htm]; exact SZ.out
    rw [← hW3] at st
    have l1 := HL.out W3 _ _ S3.out
    clear hW3 SZ CZ htm r1
    go_wp2_with fail
    refine (CS.out W3 S3.out.tx).mono ?_
    rintro e W3' ⟨rfl, b3⟩
    have S3' := S3
    clear S3
    have S3 : Hid (Cn sm tm w.heap.size W2.heap.size w W3') := S3'.out.below b3
    clear b3 S3' l1 st
    go_wp2_with fail
  all_goals
    as_aux_lemma =>
    refine (CH.out _ S3.out.tx).mono ?_
    rintro e Wa ⟨ba, v, rfl, hv⟩
    have Sa : Hid (Cn sm tm w.heap.size W2.heap.size w Wa) := S3.out.below ba
    clear ba S3 CH
    by_cases hE : EH = 0
    case' pos =>
      have hv' : Wa.ownsRow _ 5 1 v _ _ := (if_pos hE).mp hv
      have hE' : (EH : Int) = 0 := by omega
      have CM := MH.out hE v Wa Sa.out.tx (byl_own hv').1
      clear hv hv' MH
      subst hE
      go_wp2_with fail
      refine CM.mono ?_
      rintro e Wb ⟨rfl, bb⟩
      have S4 : Hid (Cn sm tm w.heap.size W2.heap.size w Wb) := Sa.out.below bb
      clear bb Sa CM
      go_wp2_with fail
    case' neg =>
      have hE' : ¬ ((EH : Int) = 0) := by omega
      have S4 : Hid (Cn sm tm w.heap.size W2.heap.size w Wa) := Sa.out
      clear hv Sa MH
      go_wp2_with fail
    all_goals
      as_aux_lemma =>
      refine (CB.out _ S4.out.tx).mono ?_
      rintro e Wa ⟨ba, v, rfl, hv⟩
      have Sa : Hid (Cn sm tm w.heap.size W2.heap.size w Wa) := S4.out.below ba
      clear ba S4 CB
      by_cases hE : EB = 0
      case' pos =>
        have hv' : Wa.ownsRow _ 5 1 v _ _ := (if_pos hE).mp hv
        have hE' : (EB : Int) = 0 := by omega
        have CM := MB.out hE v Wa Sa.out.tx (byl_own hv').1
        clear hv hv' MB
        subst hE
        go_wp2_with fail
        refine CM.mono ?_
        rintro e Wb ⟨rfl, bb⟩
        have S5 : Hid (Cn sm tm w.heap.size W2.heap.size w Wb) := Sa.out.below bb
        clear bb Sa CM
        go_wp2_with fail
      case' neg =>
        have hE' : ¬ ((EB : Int) = 0) := by omega
        have S5 : Hid (Cn sm tm w.heap.size W2.heap.size w Wa) := Sa.out
        clear hv Sa MB
        go_wp2_with fail
      all_goals
        as_aux_lemma =>
        refine (CC.out _ S5.out.tx).mono ?_
        rintro e Wa ⟨ba, v, rfl, hv⟩
        have Sa : Hid (Cn sm tm w.heap.size W2.heap.size w Wa) := S5.out.below ba
        clear ba S5 CC
        by_cases hE : EC = 0
        case' pos =>
          have hv' : Wa.ownsRow _ 5 1 v _ _ := (if_pos hE).mp hv
          have hE' : (EC : Int) = 0 := by omega
          have CM := MC.out hE v Wa Sa.out.tx (byl_own hv').1
          clear hv hv' MC
          subst hE
          go_wp2_with fail
          refine CM.mono ?_
          rintro e Wb ⟨rfl, bb⟩
          have S6 : Hid (Cn sm tm w.heap.size W2.heap.size w Wb) := Sa.out.below bb
          clear bb Sa CM
          go_wp2_with fail
        case' neg =>
          have hE' : ¬ ((EC : Int) = 0) := by omega
          have S6 : Hid (Cn sm tm w.heap.size W2.heap.size w Wa) := Sa.out
          clear hv Sa MC
          go_wp2_with fail
        all_goals
          as_aux_lemma =>
          refine (CT.out _ S6.out.tx).mono ?_
          rintro e Wa ⟨rfl, ba⟩
          have Sa : Hid (Cn sm tm w.heap.size W2.heap.size w Wa) := S6.out.below ba
          clear ba S6 CT
          unfold four
          obtain ⟨st2, Sb⟩ := ST.out tm t2 _ Wa HTM.out RL.out Sa.out
          have l3 := HM.out _ _ _ RL.out Sb.out
          by_cases hE : e2 = 0
          · have hE' : (e2 : Int) = 0 := by omega
            have CM := MR.out hE _ Sb.out.tx
            subst hE
            go_wp2_with fail
            refine CM.mono ?_
            rintro e Wc ⟨rfl, bc⟩
            have Sc := Sb.out.below bc
            go_wp2
            go_ret
            exact ⟨rfl, Sc.bel⟩
          · have hE' : ¬ ((e2 : Int) = 0) := by omega
            go_wp2
            go_ret
            exact ⟨rfl, Sb.out.bel⟩
end Go.Proofs.YtkppejaigodgiabDoor
