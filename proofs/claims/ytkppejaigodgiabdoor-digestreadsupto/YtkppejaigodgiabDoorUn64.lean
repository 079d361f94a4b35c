/- UnBase64: the code's. -/
import Derived.Test.YtkppejaigodgiabDoorUn32
import Derived.Test.YtkppejaigodgiabDoorB64R
namespace Go.Proofs.YtkppejaigodgiabDoor
open Go.RowKit
theorem byt_data (s : ByteArray) (i : Nat) (h : i < s.size) : byt s i = (s.data[i]'h).toNat := by rw [← byt_at s i h]; rfl
theorem tl_take (s : ByteArray) (n : Nat) (h : n ≤ s.size) : tl (s.extract 0 n) = (tl s).take n := by
  have hz : (s.extract 0 n).size = n := by rw [ByteArray.size_extract]; omega
  apply List.ext_getElem
  · rw [tl_len, List.length_take, tl_len, hz]; omega
  · intro j h1 h2
    have hj : j < n := by rw [tl_len, hz] at h1; exact h1
    rw [List.getElem_take]
    simp only [tl, List.getElem_map, List.getElem_range]
    rw [byt_data _ _ (by omega), byt_data _ _ (by omega)]
    simp [ByteArray.data_extract]
theorem tl_drop (s : ByteArray) (n : Nat) (h : n ≤ s.size) : tl (s.extract n s.size) = (tl s).drop n := by
  have hz : (s.extract n s.size).size = s.size - n := by rw [ByteArray.size_extract]; omega
  apply List.ext_getElem
  · rw [tl_len, List.length_drop, tl_len, hz]
  · intro j h1 h2
    have hj : j < s.size - n := by rw [tl_len, hz] at h1; exact h1
    rw [List.getElem_drop]
    simp only [tl, List.getElem_map, List.getElem_range]
    rw [byt_data _ _ (by omega), byt_data _ _ (by omega)]
    simp [ByteArray.data_extract]
def nfN : Nat → List Nat → List Nat
  | 0, t => t
  | k + 1, t => nf1 (nfN k t)
set_option maxHeartbeats 1000000 in
theorem wofill_any (s : ByteArray) (hs : s.size ≤ 1152921504606846976) (w : World) : Calls Tryd.prog 40 #[.string s] w fun e w' => ∃ D, e = .returned (.string D) ∧ tl D = noFill (tl s) ∧ w' = w := by
  go_enter Tryd.func40, Tryd.ntmps40
  go_wp2_with fail
  go_loopw [0, 3] (fun v i wr => ∃ (k : Nat) (D : ByteArray), v = .string D ∧ i = .int .i64 (k : Int) ∧ k ≤ 2 ∧ Hid (tl D = nfN k (tl s)) ∧ D.size ≤ s.size ∧ wr = w) (fun _ i _ => 2 - (intOf i).toNat)
  case atStart => exact ⟨0, s, rfl, rfl, by omega, rfl, Nat.le_refl _, rfl⟩
  case round =>
    obtain ⟨k, D, rfl, rfl, hk, HD, hDs, rfl⟩ := hrel
    by_cases hlt : k < 2
    · have hk1 : (k : Int) < 2 := by omega
      by_cases h0 : 0 < D.size
      · have h0' : (0 : Int) < (D.size : Int) := by omega
        obtain ⟨c, hc⟩ : ∃ c, c = byt D (D.size - 1) := ⟨_, rfl⟩
        have hw1 : IntKind.i64.wrap ((D.size : Int) - 1) = (D.size : Int) - 1 := by rw [IntKind.wrap_i64]; omega
        have hix : ∀ W : World, (Instr.index 9 (.string D) (.int .i64 ((D.size : Int) - 1))).run Tryd.prog W = .ok (.int .u8 (c : Int)) W := fun W => by
          have := idx9 W D (D.size - 1) (by omega)
          rw [← hc, show ((D.size - 1 : Nat) : Int) = (D.size : Int) - 1 by omega] at this
          exact this
        have hge : (tl D).getD ((tl D).length - 1) 0 = c := by rw [tl_len, tl_get _ _ (by omega), hc]
        by_cases hc61 : c = 61
        · obtain ⟨d, hd⟩ : ∃ d, d = D.extract 0 (D.size - 1) := ⟨_, rfl⟩
          have hd' : D.extract 0 (D.size - 1) = d := hd.symm
          have HE : Hid (tl d = nfN (k + 1) (tl s)) := by
            show tl d = nf1 (nfN k (tl s))
            rw [← HD.out, hd, tl_take _ _ (by omega)]
            unfold nf1
            rw [if_pos ⟨by rw [tl_len]; exact h0, by rw [hge]; exact hc61⟩, tl_len]
          have hds : d.size ≤ s.size := by rw [hd, ByteArray.size_extract]; omega
          have ht0 : ((D.size : Int) - 1).toNat = D.size - 1 := by omega
          have hn0 : (0 : Int) ≤ (D.size : Int) - 1 := by omega
          have hn1 : (D.size : Int) - 1 ≤ (D.size : Int) := by omega
          subst hc61
          clear hd hc hge HD
          go_wp2
          exact ⟨⟨k + 1, d, rfl, rfl, by omega, HE, hds, trivial⟩, by simp only [intOf]; omega⟩
        · have hc' : ¬ ((c : Int) = 61) := by omega
          have HE : Hid (tl D = nfN (k + 1) (tl s)) := by
            show tl D = nf1 (nfN k (tl s))
            rw [← HD.out]
            unfold nf1
            rw [if_neg (by rw [hge]; exact fun h => hc61 h.2)]
          clear hc hge HD
          go_wp2
          go_roundw
          case rel => exact ⟨k + 1, D, rfl, by go_num, by omega, HE, hDs, trivial⟩
          case measure => simp [intOf]; omega
      · have h0' : ¬ ((0 : Int) < (D.size : Int)) := by omega
        have HE : Hid (tl D = nfN (k + 1) (tl s)) := by
          show tl D = nf1 (nfN k (tl s))
          rw [← HD.out]
          unfold nf1
          rw [if_neg (by rw [tl_len]; exact fun h => h0 h.1)]
        clear HD
        go_wp2
        go_roundw
        case rel => exact ⟨k + 1, D, rfl, by go_num, by omega, HE, hDs, trivial⟩
        case measure => simp [intOf]; omega
    · have hk1 : ¬ ((k : Int) < 2) := by omega
      have hke : k = 2 := by omega
      subst hke
      have HE : Hid (tl D = noFill (tl s)) := HD.out
      clear HD
      go_wp2
      go_ret
      exact ⟨D, rfl, HE.out, rfl⟩
theorem i64_or_nat (x y : Nat) (hx : x < 2 ^ 62) (hy : y < 2 ^ 62) : bits BinOp.or IntKind.i64 (x : Int) (y : Int) = ((x ||| y : Nat) : Int) := by
  have h1 : (BitVec.ofInt 64 (x : Int)).toNat = x := by rw [BitVec.toNat_ofInt]; omega
  have h2 : (BitVec.ofInt 64 (y : Int)).toNat = y := by rw [BitVec.toNat_ofInt]; omega
  have h3 : x ||| y < 2 ^ 62 := Nat.or_lt_two_pow hx hy
  show IntKind.i64.wrap ((BitVec.ofInt 64 (x : Int) ||| BitVec.ofInt 64 (y : Int)).toNat : Nat) = _
  rw [BitVec.toNat_or, h1, h2, IntKind.wrap_i64]
  omega
theorem i64_and_nat (x m : Nat) (hx : x < 2 ^ 62) (hm : m ≤ 32) : bits BinOp.and IntKind.i64 (x : Int) ((2 ^ m - 1 : Nat) : Int) = ((x % 2 ^ m : Nat) : Int) := by
  have hp : 2 ^ m ≤ 2 ^ 32 := Nat.pow_le_pow_right (by decide) hm
  have hpos : 0 < 2 ^ m := Nat.pow_pos (by decide)
  have h1 : (BitVec.ofInt 64 (x : Int)).toNat = x := by rw [BitVec.toNat_ofInt]; omega
  have h2 : (BitVec.ofInt 64 ((2 ^ m - 1 : Nat) : Int)).toNat = 2 ^ m - 1 := by rw [BitVec.toNat_ofInt]; omega
  have h3 : x % 2 ^ m < 2 ^ 32 := Nat.lt_of_lt_of_le (Nat.mod_lt _ hpos) hp
  show IntKind.i64.wrap ((BitVec.ofInt 64 (x : Int) &&& BitVec.ofInt 64 ((2 ^ m - 1 : Nat) : Int)).toNat : Nat) = _
  rw [BitVec.toNat_and, h1, h2, Nat.and_two_pow_sub_one_eq_mod, IntKind.wrap_i64]
  omega
theorem or64 (h v : Nat) (hh : h < 64) (hv : v < 64) : bits BinOp.or IntKind.i64 ((h * 64 : Nat) : Int) (v : Int) = ((h * 64 + v : Nat) : Int) := by
  rw [i64_or_nat _ _ (by omega) (by omega)]
  congr 1
  rw [Nat.mul_comm, show (64 : Nat) = 2 ^ 6 by decide, Nat.two_pow_add_eq_or_of_lt (by omega)]
theorem own_base {w : World} {b B n : Nat} {v : Value} {xs : List Value} (hb : b ≤ B) (h : w.ownsRow B 5 1 v n xs) : w.ownsRow b 5 1 v n xs := by
  obtain ⟨hl, h0 | ⟨g, cap, cur, hv, hB, hr⟩⟩ := h
  · exact ⟨hl, .inl h0⟩
  · exact ⟨hl, .inr ⟨g, cap, cur, hv, Nat.le_trans hb hB, hr⟩⟩
attribute [local go_sem ↓] to60s toMk toApp
set_option maxRecDepth 100000 in
set_option maxHeartbeats 3200000 in
theorem un64_any (s : ByteArray) (hs : s.size ≤ 187649984473770) (w : World) (ht : Tx w) : Calls Tryd.prog 22 #[.string s] w (RdP (v64V (tl s)) (v64E (tl s)) w) := by
  have hsz := ht.sz
  have hTl := tl_len s
  by_cases h4 : s.size % 4 = 0
  case neg =>
    have hE : Hid (v64E (tl s) = (3, s.size)) := by show _ = _; unfold v64E; rw [if_pos (by rw [hTl]; exact h4), hTl]
    have h4' : ¬ (Int.tmod (s.size : Int) 4 = 0) := by rw [Int.tmod_eq_emod_of_nonneg (by omega)]; omega
    have CW : Hid (Below w.heap.size w w) := Below.refl _ w
    go_enter Tryd.func22, Tryd.ntmps22
    go_wp2
    go_ret3
    refine ⟨CW.out, .slice none 0 0, ?_, ?_⟩
    · rw [hE.out]; rfl
    · rw [hE.out]; rfl
  case pos =>
  have h4' : Int.tmod (s.size : Int) 4 = 0 := by rw [Int.tmod_eq_emod_of_nonneg (by omega)]; omega
  have H4 : Hid ((tl s).length % 4 = 0) := by show _ = _; rw [hTl]; exact h4
  clear hTl h4
  go_enter Tryd.func22, Tryd.ntmps22
  go_wp2_with fail
  refine (wofill_any s (by omega) w).mono ?_
  rintro e w' ⟨D, rfl, hD, hw'⟩
  have hw2 := hw'.symm
  subst hw2
  have hDl : D.size ≤ s.size := by
    have h1 : (tl D).length = (noFill (tl s)).length := by rw [hD]
    obtain ⟨f, _, hf⟩ := noFill_form (tl s)
    have h2 := congrArg List.length hf
    rw [List.length_append, List.length_replicate] at h2
    rw [tl_len] at h1 h2
    omega
  have HD : Hid (tl D = noFill (tl s)) := hD
  have HDl : Hid ((tl D).length = D.size) := tl_len D
  clear hD
  go_wp2_with fail
  refine (known64_any w ht).mono ?_
  rintro e W1 ⟨rfl, b1⟩
  have z1 := b1.size
  have hst := run_storeR60 (W1.alloc (.cells (bs Z256) 60)) W1.heap.size Z256 (KT D64 64) (heap_alloc_new _ _) Z256_len (KT_len _ _)
  rw [← zc60] at hst
  obtain ⟨W2, hW2⟩ : ∃ W, W = (W1.alloc (.cells Tryd.zeroCells60 60)).setRow W1.heap.size (bs (KT D64 64)) := ⟨_, rfl⟩
  have r2 : Hid (Kn D64 W1.heap.size W2) := by rw [hW2]; exact setRow_heap _ _ _ _ _ _ (heap_alloc_new _ _)
  have bel2 : Below w.heap.size w W2 := by rw [hW2]; exact below_setRow (b1.alloc z1 _) z1 _
  rw [← hW2] at hst
  clear hW2 b1
  go_wp2_with fail
  refine (first_any D64 D (by omega) W1.heap.size W2 r2).mono ?_
  rintro e W3 ⟨rfl, b3⟩
  have hg2 : W1.heap.size < W2.heap.size := (Array.getElem?_eq_some_iff.1 r2.out).1
  have r3 : Hid (Kn D64 W1.heap.size W3) := (b3.block _ hg2).trans r2.out
  have bel3 : Below w.heap.size w W3 := bel2.trans (b3.mono (by omega))
  have hg3 : W1.heap.size < W3.heap.size := (Array.getElem?_eq_some_iff.1 r3.out).1
  clear hst r2 bel2 b3 hg2
  revert r3 hg3 z1
  generalize W1.heap.size = G
  intro z1 r3 hg3
  obtain ⟨F, hF⟩ : ∃ F, F = fuL D64 (tl D) := ⟨_, rfl⟩
  have hFle : F ≤ D.size := by rw [hF]; exact Nat.le_trans (fuL_le _ _) (by rw [HDl.out]; exact Nat.le_refl _)
  rw [← hF]
  by_cases hA : F < D.size
  · have hA' : (F : Int) < (D.size : Int) := by omega
    have hE : Hid (v64E (tl s) = (10, F)) := by
      show _ = _
      unfold v64E
      rw [if_neg (by have := H4.out; omega), ← HD.out, if_pos (by rw [HDl.out, ← hF]; exact hA), hF]
    clear hF hFle
    go_wp2
    go_ret3
    refine ⟨bel3, .slice none 0 0, ?_, ?_⟩
    · rw [hE.out]; rfl
    · rw [hE.out]; rfl
  · have hA' : ¬ ((F : Int) < (D.size : Int)) := by omega
    have HF : Hid (¬ fuL D64 (tl D) < (tl D).length) := by show ¬ _; rw [HDl.out]; omega
    have HI : Hid (∀ k, k ≤ D.size → (s64 (tl D) k).2.2 = 6 * k % 8 ∧ (s64 (tl D) k).2.1 < 2 ^ (6 * k % 8) ∧ (s64 (tl D) k).1.length = 6 * k / 8) := fun k hk => s64_inv (tl D) (fun j hj => fuL_all D64 (tl D) HF.out j hj) k (by rw [HDl.out]; exact hk)
    obtain ⟨n, hn⟩ : ∃ n, n = 6 * D.size / 8 := ⟨_, rfl⟩
    have hnI : 6 * (D.size : Int) / 8 = (n : Int) := by omega
    have hnT : Int.tdiv (6 * (D.size : Int)) 8 = (n : Int) := by rw [Int.tdiv_eq_ediv_of_nonneg (by omega)]; exact hnI
    have hnW : IntKind.i64.wrap (n : Int) = (n : Int) := by rw [IntKind.wrap_i64]; omega
    have hw6 : IntKind.i64.wrap (6 * (D.size : Int)) = 6 * (D.size : Int) := by rw [IntKind.wrap_i64]; omega
    obtain ⟨w0, hmk, hown0, belm⟩ := run_mk0 W3 n (by omega)
    have HO0 : Hid (w0.ownsRow W3.heap.size 5 1 (.slice (some ⟨W3.heap.size, 0, none⟩) 0 n) 0 (bs []).toList) := hown0
    have BM : Hid (Below W3.heap.size W3 w0) := belm
    have B3 : Hid (Below w.heap.size w W3) := bel3
    have hws : w.heap.size ≤ W3.heap.size := bel3.size
    have R3 : Hid (∀ W, Below W3.heap.size W3 W → Kn D64 G W) := fun W h => (h.block G hg3).trans r3.out
    clear hown0 belm bel3 hn hF hFle r3
    go_wp2_with fail
    clear hmk hA hA'
    go_loopw [8, 9, 10, 35] (fun ov h b i wr => ∃ k x y : Nat, i = .int .i64 (k : Int) ∧ h = .int .i64 (x : Int) ∧ b = .int .i64 (y : Int) ∧ Hid ((s64 (tl D) k).2.1 = x) ∧ Hid ((s64 (tl D) k).2.2 = y) ∧ k ≤ D.size ∧ Hid (wr.ownsRow W3.heap.size 5 1 ov (6 * k / 8) (bs (s64 (tl D) k).1).toList) ∧ Hid (Below W3.heap.size W3 wr)) (fun _ _ _ i _ => D.size - (intOf i).toNat)
    case atStart => exact ⟨0, 0, 0, rfl, rfl, rfl, rfl, rfl, by omega, HO0, BM⟩
    case round =>
      clear HO0 BM
      obtain ⟨k, x, y, rfl, rfl, rfl, HX, HY, hk, HO, HB⟩ := hrel
      by_cases hlt : k < D.size
      · have hk0 : (0 : Int) ≤ (k : Int) := by omega
        have hk1 : (k : Int) < (D.size : Int) := by omega
        obtain ⟨i1, i2, i3⟩ := HI.out k hk
        rw [HY.out] at i1
        rw [HX.out] at i2
        obtain ⟨c, hc⟩ : ∃ c, c = byt D k := ⟨_, rfl⟩
        have hix : ∀ W : World, (Instr.index 9 (.string D) (.int .i64 (k : Int))).run Tryd.prog W = .ok (.int .u8 (c : Int)) W := fun W => by rw [hc]; exact idx9 W D k hlt
        have hc256 : c < 256 := by rw [hc]; exact byt_lt _ _
        have kc := fuL_all D64 (tl D) HF.out k (by rw [HDl.out]; exact hlt)
        rw [tl_get D k hlt, ← hc] at kc
        obtain ⟨v, hv⟩ : ∃ v, v = kv D64 c := ⟨_, rfl⟩
        have hv64 : v < 64 := by rw [hv]; exact kc
        have CV : Hid (Calls Tryd.prog 38 #[.pointer (some ⟨G, 0, none⟩), .int .u8 (c : Int)] wr fun e w' => e = .returned (.int .u8 (v : Int)) ∧ w' = wr) := by
          have := value_any D64 (by decide) G c hc256 kc wr (R3.out wr HB.out)
          rw [← hv] at this
          exact this
        have HS : Hid (s64 (tl D) (k + 1) = step64 (s64 (tl D) k) v) := by
          show _ = _
          rw [s64_step _ _ (by rw [HDl.out]; exact hlt), tl_get D k hlt, ← hc, ← hv]
        have hx64 : x < 64 := Nat.lt_of_lt_of_le i2 (by
          have : 2 ^ (6 * k % 8) ≤ 2 ^ 6 := Nat.pow_le_pow_right (by decide) (by omega)
          exact this)
        have hor := or64 x v hx64 hv64
        obtain ⟨P, hP⟩ : ∃ P, P = x * 64 := ⟨_, rfl⟩
        obtain ⟨H, hH⟩ : ∃ H, H = x * 64 + v := ⟨_, rfl⟩
        have hPI : (x : Int) * 64 = (P : Int) := by omega
        have hPW : IntKind.i64.wrap (P : Int) = (P : Int) := by rw [IntKind.wrap_i64]; omega
        have hPW2 : IntKind.i64.wrap ((x : Int) * 64) = (P : Int) := by rw [hPI]; exact hPW
        rw [← hH, ← hP] at hor
        have hH4 : H < 4096 := by omega
        have hvW : IntKind.i64.wrap (v : Int) = (v : Int) := by rw [IntKind.wrap_i64]; omega
        have HH : Hid (H = x * 64 + v) := hH
        have hbz := HB.out.size
        clear hc hv kc hP hH
        have hy : y = 0 ∨ y = 6 ∨ y = 4 ∨ y = 2 := by omega
        rcases hy with rfl | hy
        · have HO1 : Hid (wr.ownsRow W3.heap.size 5 1 u8 (6 * (k + 1) / 8) (bs (s64 (tl D) (k + 1)).1).toList) := by
            have e1 : (s64 (tl D) (k + 1)).1 = (s64 (tl D) k).1 := by rw [HS.out]; unfold step64; rw [HY.out]; rfl
            rw [e1, show 6 * (k + 1) / 8 = 6 * k / 8 by omega]
            exact HO
          have HX1 : Hid ((s64 (tl D) (k + 1)).2.1 = H) := by show _ = _; rw [HS.out]; unfold step64; rw [HY.out, HX.out, HH.out]; rfl
          have HY1 : Hid ((s64 (tl D) (k + 1)).2.2 = 6) := by show _ = _; rw [HS.out]; unfold step64; rw [HY.out]; rfl
          clear HO HX HY HS i1 i2 i3
          go_wp2_with (go_at_call 38; refine CV.out.mono ?_; rintro e w' ⟨rfl, hw'⟩; have hw2 := hw'.symm; subst hw2)
          exact ⟨⟨k + 1, H, 6, rfl, rfl, rfl, HX1, HY1, by omega, HO1, HB⟩, by simp only [intOf]; omega⟩
        rcases hy with rfl | rfl | rfl
        · obtain ⟨Xq, hXq⟩ : ∃ q, q = H / 16 % 256 := ⟨_, rfl⟩
          obtain ⟨Hq, hHq⟩ : ∃ q, q = H % 16 := ⟨_, rfl⟩
          obtain ⟨v1, w1, hr1, ho1, bel1⟩ := run_app1 wr W3.heap.size (6 * k / 8) u8 _ Xq HO.out (by omega) hbz
          have HO1 : Hid (w1.ownsRow W3.heap.size 5 1 v1 (6 * (k + 1) / 8) (bs (s64 (tl D) (k + 1)).1).toList) := by
            have e1 : (s64 (tl D) (k + 1)).1 = (s64 (tl D) k).1 ++ [Xq] := by rw [HS.out]; unfold step64; rw [HY.out, HX.out, ← HH.out, hXq]; rfl
            rw [e1, show 6 * (k + 1) / 8 = 6 * k / 8 + 1 by omega]
            exact ho1
          have HX1 : Hid ((s64 (tl D) (k + 1)).2.1 = Hq) := by show _ = _; rw [HS.out]; unfold step64; rw [HY.out, HX.out, ← HH.out, hHq]; rfl
          have HY1 : Hid ((s64 (tl D) (k + 1)).2.2 = 4) := by show _ = _; rw [HS.out]; unfold step64; rw [HY.out]; rfl
          have HB1 : Hid (Below W3.heap.size W3 w1) := HB.out.trans bel1
          have hand : bits BinOp.and IntKind.i64 (H : Int) 15 = (Hq : Int) := by rw [hHq]; exact i64_and_nat H 4 (by omega) (by omega)
          have hXI : (H : Int) / 16 % 256 = (Xq : Int) := by omega
          have hXW : IntKind.u8.wrap ((H : Int) / 16) = (Xq : Int) := by rw [IntKind.wrap_u8]; omega
          clear HO HX HY HS i1 i2 i3 ho1 bel1 hXq hHq
          go_wp2_with (go_at_call 38; refine CV.out.mono ?_; rintro e w' ⟨rfl, hw'⟩; have hw2 := hw'.symm; subst hw2)
          exact ⟨⟨k + 1, Hq, 4, rfl, rfl, rfl, HX1, HY1, by omega, HO1, HB1⟩, by simp only [intOf]; omega⟩
        · obtain ⟨Xq, hXq⟩ : ∃ q, q = H / 4 % 256 := ⟨_, rfl⟩
          obtain ⟨Hq, hHq⟩ : ∃ q, q = H % 4 := ⟨_, rfl⟩
          obtain ⟨v1, w1, hr1, ho1, bel1⟩ := run_app1 wr W3.heap.size (6 * k / 8) u8 _ Xq HO.out (by omega) hbz
          have HO1 : Hid (w1.ownsRow W3.heap.size 5 1 v1 (6 * (k + 1) / 8) (bs (s64 (tl D) (k + 1)).1).toList) := by
            have e1 : (s64 (tl D) (k + 1)).1 = (s64 (tl D) k).1 ++ [Xq] := by rw [HS.out]; unfold step64; rw [HY.out, HX.out, ← HH.out, hXq]; rfl
            rw [e1, show 6 * (k + 1) / 8 = 6 * k / 8 + 1 by omega]
            exact ho1
          have HX1 : Hid ((s64 (tl D) (k + 1)).2.1 = Hq) := by show _ = _; rw [HS.out]; unfold step64; rw [HY.out, HX.out, ← HH.out, hHq]; rfl
          have HY1 : Hid ((s64 (tl D) (k + 1)).2.2 = 2) := by show _ = _; rw [HS.out]; unfold step64; rw [HY.out]; rfl
          have HB1 : Hid (Below W3.heap.size W3 w1) := HB.out.trans bel1
          have hand : bits BinOp.and IntKind.i64 (H : Int) 3 = (Hq : Int) := by rw [hHq]; exact i64_and_nat H 2 (by omega) (by omega)
          have hXI : (H : Int) / 4 % 256 = (Xq : Int) := by omega
          have hXW : IntKind.u8.wrap ((H : Int) / 4) = (Xq : Int) := by rw [IntKind.wrap_u8]; omega
          clear HO HX HY HS i1 i2 i3 ho1 bel1 hXq hHq
          go_wp2_with (go_at_call 38; refine CV.out.mono ?_; rintro e w' ⟨rfl, hw'⟩; have hw2 := hw'.symm; subst hw2)
          exact ⟨⟨k + 1, Hq, 2, rfl, rfl, rfl, HX1, HY1, by omega, HO1, HB1⟩, by simp only [intOf]; omega⟩
        · obtain ⟨Xq, hXq⟩ : ∃ q, q = H / 1 % 256 := ⟨_, rfl⟩
          obtain ⟨Hq, hHq⟩ : ∃ q, q = H % 1 := ⟨_, rfl⟩
          obtain ⟨v1, w1, hr1, ho1, bel1⟩ := run_app1 wr W3.heap.size (6 * k / 8) u8 _ Xq HO.out (by omega) hbz
          have HO1 : Hid (w1.ownsRow W3.heap.size 5 1 v1 (6 * (k + 1) / 8) (bs (s64 (tl D) (k + 1)).1).toList) := by
            have e1 : (s64 (tl D) (k + 1)).1 = (s64 (tl D) k).1 ++ [Xq] := by rw [HS.out]; unfold step64; rw [HY.out, HX.out, ← HH.out, hXq]; rfl
            rw [e1, show 6 * (k + 1) / 8 = 6 * k / 8 + 1 by omega]
            exact ho1
          have HX1 : Hid ((s64 (tl D) (k + 1)).2.1 = Hq) := by show _ = _; rw [HS.out]; unfold step64; rw [HY.out, HX.out, ← HH.out, hHq]; rfl
          have HY1 : Hid ((s64 (tl D) (k + 1)).2.2 = 0) := by show _ = _; rw [HS.out]; unfold step64; rw [HY.out]; rfl
          have HB1 : Hid (Below W3.heap.size W3 w1) := HB.out.trans bel1
          have hand : bits BinOp.and IntKind.i64 (H : Int) 0 = (Hq : Int) := by rw [hHq]; exact i64_and_nat H 0 (by omega) (by omega)
          have hXI : (H : Int) / 1 % 256 = (Xq : Int) := by omega
          have hXW : IntKind.u8.wrap ((H : Int) / 1) = (Xq : Int) := by rw [IntKind.wrap_u8]; omega
          have hXI1 : (H : Int) % 256 = (Xq : Int) := by omega
          have hXW1 : IntKind.u8.wrap (H : Int) = (Xq : Int) := by rw [IntKind.wrap_u8]; omega
          clear HO HX HY HS i1 i2 i3 ho1 bel1 hXq hHq
          go_wp2_with (go_at_call 38; refine CV.out.mono ?_; rintro e w' ⟨rfl, hw'⟩; have hw2 := hw'.symm; subst hw2)
          exact ⟨⟨k + 1, Hq, 0, rfl, rfl, rfl, HX1, HY1, by omega, HO1, HB1⟩, by simp only [intOf]; omega⟩
      · have hk1 : ¬ ((k : Int) < (D.size : Int)) := by omega
        have hke : k = D.size := by omega
        subst hke
        have HL : Hid ((v64V (tl s)).length = 6 * D.size / 8 ∧ v64V (tl s) = (s64 (tl D) D.size).1) := by
          have e : v64V (tl s) = (s64 (tl D) D.size).1 := by unfold v64V; rw [← HD.out, HDl.out]
          exact ⟨by rw [e]; exact (HI.out D.size hk).2.2, e⟩
        have HV : Hid (v64H (tl s) = x) := by show _ = _; unfold v64H; rw [← HD.out, HDl.out]; exact HX.out
        have HE0 : Hid (v64E (tl s) = if ¬ x = 0 then (11, D.size - 1) else (0, 0)) := by
          show _ = _
          unfold v64E
          rw [if_neg (by have := H4.out; omega), ← HD.out, if_neg HF.out, HV.out, HDl.out]
        have hB : Below w.heap.size w wr := B3.out.trans (HB.out.mono hws)
        have hD0 : ¬ x = 0 → 0 < D.size := fun h => by
          rcases Nat.eq_zero_or_pos D.size with h0 | h0
          · have := HX.out
            rw [h0] at this
            exact absurd this.symm h
          · exact h0
        by_cases hx : x = 0
        · subst hx
          have hE : Hid (v64E (tl s) = (0, 0)) := by show _ = _; rw [HE0.out]; rfl
          clear HE0
          go_wp2
          go_ret3
          refine ⟨hB, u8, ?_, ?_⟩
          · rw [hE.out]; rfl
          · rw [hE.out]
            show World.ownsRow _ _ _ _ _ _ _
            rw [HL.out.1, HL.out.2]
            exact own_base hws HO.out
        · have hx' : ¬ ((x : Int) = 0) := by omega
          have hE : Hid (v64E (tl s) = (11, D.size - 1)) := by show _ = _; rw [HE0.out, if_pos hx]
          have hpos := hD0 hx
          have hw1 : IntKind.i64.wrap ((D.size : Int) - 1) = ((D.size - 1 : Nat) : Int) := by rw [IntKind.wrap_i64]; omega
          have hw1' : (D.size : Int) - 1 = ((D.size - 1 : Nat) : Int) := by omega
          clear HE0
          go_wp2
          go_ret3
          refine ⟨hB, .slice none 0 0, ?_, ?_⟩
          · rw [hE.out]; rfl
          · rw [hE.out]; rfl
end Go.Proofs.YtkppejaigodgiabDoor
