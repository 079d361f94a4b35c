/- Several texts in one: HrW, HrH. -/
import Derived.Test.YtffghlbgbfhfdaaGreatDoorHxJ
import Derived.Deep.AppendLies
import Derived.Deep.RegionHeld3
import Derived.Deep.RegionWith
/- The document's own readers: worth, bad, common. -/
namespace Go.Proofs.YtffghlbgbfhfdaaGreatDoor.Hx
open Go.RowKit
/-- A digit's value, or -1. -/
def wv (D : List Nat) (c : Nat) : Int := if D.idxOf c < D.length then ((D.idxOf c : Nat) : Int) else -1
theorem idx_at (l : List Nat) (c k : Nat) (hk : k < l.length) (h1 : ∀ j, j < k → ¬ l.getD j 0 = c) (h2 : l.getD k 0 = c) : l.idxOf c = k := by
  unfold List.idxOf
  rw [List.findIdx_eq hk]
  refine ⟨?_, fun j hj => ?_⟩
  · simp [List.getD, hk] at h2
    simp [h2]
  · have := h1 j hj
    have hj2 : j < l.length := by omega
    simp [List.getD, hj2] at this
    simp [this]
theorem idx_end (l : List Nat) (c : Nat) (h1 : ∀ j, j < l.length → ¬ l.getD j 0 = c) : ¬ l.idxOf c < l.length := by
  intro h
  have e : l[l.idxOf c]'h = c := List.getElem_idxOf h
  exact h1 _ h (by simp [List.getD, h])
set_option maxHeartbeats 1000000 in
theorem worth_any (D : ByteArray) (hD : D.size ≤ 1048576) (c : Nat) (w : World) :
    Calls Tryz.prog 42 #[.string D, .int .u8 (c : Int)] w fun e w' => e = .returned (.int .i64 (wv (tl D) c)) ∧ w' = w := by
  obtain ⟨a, ha⟩ : ∃ a : Int, a = wv (tl D) c := ⟨_, rfl⟩
  rw [← ha]
  have HA : Hid (a = wv (tl D) c) := ha
  clear ha
  go_enter Tryz.func42, Tryz.ntmps42
  go_wp2_with fail
  go_loopw [5] (fun i wr => ∃ k : Nat, i = .int .i64 (k : Int) ∧ k ≤ D.size ∧ Hid (∀ j, j < k → ¬ (tl D).getD j 0 = c) ∧ wr = w) (fun i _ => D.size - (intOf i).toNat)
  case atStart => exact ⟨0, rfl, by omega, fun j hj => by omega, rfl⟩
  case round =>
    obtain ⟨k, rfl, hk, HJ, rfl⟩ := hrel
    by_cases hlt : k < D.size
    · have hk0 : (0 : Int) ≤ (k : Int) := by omega
      have hk1 : (k : Int) < (D.size : Int) := by omega
      obtain ⟨y, hy⟩ : ∃ y, y = byt D k := ⟨_, rfl⟩
      have ix := fun (W : World) => idx9 W D k hlt
      rw [← hy] at ix
      have hyg : (tl D).getD k 0 = y := by rw [tl_get D k hlt, hy]
      have HY : Hid ((tl D).getD k 0 = y) := hyg
      clear hy hyg
      by_cases hyc : y = c
      · subst hyc
        have hE : Hid (a = (k : Int)) := by
          show _ = _
          have h1 := idx_at (tl D) y k (by rw [tl_len]; exact hlt) HJ.out HY.out
          rw [HA.out]
          unfold wv
          rw [if_pos (by rw [h1, tl_len]; exact hlt), h1]
        go_wp2_with fail
        go_ret
        exact ⟨by rw [hE.out]; rfl, rfl⟩
      · have hyc' : ¬ (y : Int) = (c : Int) := by omega
        go_wp2_with fail
        go_roundw
        case rel => exact ⟨k + 1, by go_num, by omega, (fun j hj => by
          by_cases hjk : j = k
          · rw [hjk, HY.out]; exact hyc
          · exact HJ.out j (by omega)), trivial⟩
        case measure => simp [intOf]; omega
    · have hke : k = D.size := by omega
      subst hke
      have hE : Hid (a = -1) := by
        show _ = _
        rw [HA.out]
        unfold wv
        rw [if_neg (idx_end (tl D) c (by rw [tl_len]; exact HJ.out))]
      go_wp2_with fail
      go_ret
      exact ⟨by rw [hE.out]; rfl, rfl⟩
/-- The place of the first byte that is no digit, or -1. -/
def badV (D t : List Nat) : Int := if fuL D t < t.length then ((fuL D t : Nat) : Int) else -1
set_option maxHeartbeats 1000000 in
theorem bad_any (D : ByteArray) (hD : D.size ≤ 1048576) (s : ByteArray) (hs : s.size ≤ 1152921504606846976) (w : World) :
    Calls Tryz.prog 41 #[.string D, .string s] w fun e w' => e = .returned (.int .i64 (badV (tl D) (tl s))) ∧ w' = w := by
  obtain ⟨a, ha⟩ : ∃ a : Int, a = badV (tl D) (tl s) := ⟨_, rfl⟩
  rw [← ha]
  have HA : Hid (a = badV (tl D) (tl s)) := ha
  clear ha
  go_enter Tryz.func41, Tryz.ntmps41
  go_wp2_with fail
  go_loopw [5] (fun i wr => ∃ k : Nat, i = .int .i64 (k : Int) ∧ k ≤ s.size ∧ Hid (∀ j, j < k → (tl D).idxOf (byt s j) < (tl D).length) ∧ wr = w) (fun i _ => s.size - (intOf i).toNat)
  case atStart => exact ⟨0, rfl, by omega, fun j hj => by omega, rfl⟩
  case round =>
    obtain ⟨k, rfl, hk, HJ, rfl⟩ := hrel
    by_cases hlt : k < s.size
    · have hk0 : (0 : Int) ≤ (k : Int) := by omega
      have hk1 : (k : Int) < (s.size : Int) := by omega
      obtain ⟨y, hy⟩ : ∃ y, y = byt s k := ⟨_, rfl⟩
      have ix := fun (W : World) => idx9 W s k hlt
      rw [← hy] at ix
      have HY : Hid (y = byt s k) := hy
      clear hy
      obtain ⟨v, hv⟩ : ∃ v, v = wv (tl D) y := ⟨_, rfl⟩
      have CW : Hid (∀ W, Calls Tryz.prog 42 #[.string D, .int .u8 (y : Int)] W fun e w' => e = .returned (.int .i64 v) ∧ w' = W) := fun W => by rw [hv]; exact worth_any D hD y W
      by_cases hc : (tl D).idxOf y < (tl D).length
      · have hv0 : ¬ v < 0 := by rw [hv]; unfold wv; rw [if_pos hc]; omega
        have hvn : 0 ≤ v := by omega
        clear hv
        go_wp2_with (go_at_call 42; refine (CW.out _).mono ?_; rintro e w' ⟨rfl, rfl⟩)
        go_roundw
        case rel => exact ⟨k + 1, by go_num, by omega, (fun j hj => by
          by_cases hjk : j = k
          · rw [hjk, ← HY.out]; exact hc
          · exact HJ.out j (by omega)), trivial⟩
        case measure => simp [intOf]; omega
      · have hv0 : v < 0 := by rw [hv]; unfold wv; rw [if_neg hc]; omega
        have hE : Hid (a = (k : Int)) := by
          show _ = _
          have h1 := fuL_at (tl D) s k hlt HJ.out (by rw [← HY.out]; exact hc)
          rw [HA.out]
          unfold badV
          rw [if_pos (by rw [h1, tl_len]; exact hlt), h1]
        clear hv
        go_wp2_with (go_at_call 42; refine (CW.out _).mono ?_; rintro e w' ⟨rfl, rfl⟩)
        go_ret
        exact ⟨by rw [hE.out]; rfl, rfl⟩
    · have hke : k = s.size := by omega
      subst hke
      have hE : Hid (a = -1) := by
        show _ = _
        rw [HA.out]
        unfold badV
        rw [if_neg (by rw [fuL_end (tl D) s HJ.out, tl_len]; omega)]
      go_wp2_with fail
      go_ret
      exact ⟨by rw [hE.out]; rfl, rfl⟩
end Go.Proofs.YtffghlbgbfhfdaaGreatDoor.Hx

/- The document's own UnHex. -/
namespace Go.Proofs.YtffghlbgbfhfdaaGreatDoor.Hx
open Go.RowKit
def dig16A : ByteArray := ⟨#[48, 49, 50, 51, 52, 53, 54, 55, 56, 57, 97, 98, 99, 100, 101, 102]⟩
theorem tl_dig16 : tl dig16A = D16 := by decide +kernel
theorem own_keepW {w w' : World} {base n : Nat} {v : Value} {l : List Value} (h : w.ownsRow base 5 1 v n l) (hb : ∀ g, v.ownBlock = some g → w'.heap[g]? = w.heap[g]?) : w'.ownsRow base 5 1 v n l := by
  obtain ⟨hl, h0 | ⟨g, cap, cur, hv, hbg, hg, r⟩⟩ := h
  · exact ⟨hl, .inl h0⟩
  · exact ⟨hl, .inr ⟨g, cap, cur, hv, hbg, (hb g (by rw [hv]; rfl)).trans hg, r⟩⟩
theorem worth16 (c v : Nat) (hv : v = kv D16 c) (hc : D16.idxOf c < D16.length) (w : World) : Calls Tryz.prog 42 #[.string dig16A, .int .u8 (c : Int)] w fun e w' => e = .returned (.int .i64 (v : Int)) ∧ w' = w := by
  have := worth_any dig16A (by decide) c w
  rw [tl_dig16] at this
  unfold wv at this
  rw [if_pos hc] at this
  rw [hv]
  exact this
theorem take_one (l : List Nat) (k : Nat) (h : k < l.length) : l.take (k + 1) = l.take k ++ [l.getD k 0] := by
  rw [List.take_succ_eq_append_getElem h]
  simp [List.getD, h]
theorem hexV_take (t : List Nat) (k : Nat) (hk : k < t.length / 2) : (hexV t).take (k + 1) = (hexV t).take k ++ [kv D16 (t.getD (2 * k) 0) * 16 + kv D16 (t.getD (2 * k + 1) 0)] := by
  have hl := hexV_len _ t (Nat.le_refl _)
  rw [take_one (hexV t) k (by omega), hexV_get _ t (Nat.le_refl _) k (by omega)]
theorem kv16_lt {c : Nat} (h : D16.idxOf c < D16.length) : kv D16 c < 16 := h
set_option maxRecDepth 100000 in
set_option maxHeartbeats 1600000 in
theorem unhexR_any (s : ByteArray) (hs : s.size ≤ 1099511627776) (w : World) : Calls Tryz.prog 19 #[.string s] w (RdP (hexV (tl s)) (hexE (tl s)) w) := by
  have hl := tl_len s
  have CB : Hid (∀ W, Calls Tryz.prog 41 #[.string dig16A, .string s] W fun e w' => e = .returned (.int .i64 (badV D16 (tl s))) ∧ w' = W) := fun W => by
    have := bad_any dig16A (by decide) s (by omega) W
    rw [tl_dig16] at this
    exact this
  go_enter Tryz.func19, Tryz.ntmps19
  go_wp2_with fail
  refine (CB.out w).mono ?_
  rintro e w' ⟨rfl, rfl⟩
  clear CB
  by_cases hb : fuL D16 (tl s) < (tl s).length
  · have hE : Hid (hexE (tl s) = (10, fuL D16 (tl s))) := by show _ = _; unfold hexE; rw [if_pos hb]
    have hbv : badV D16 (tl s) = ((fuL D16 (tl s) : Nat) : Int) := by unfold badV; rw [if_pos hb]
    rw [hbv]
    obtain ⟨q, hq⟩ : ∃ q, q = fuL D16 (tl s) := ⟨_, rfl⟩
    rw [← hq] at hE ⊢
    have hq0 : (0 : Int) ≤ (q : Int) := by omega
    clear hbv hb hq
    go_wp2_with fail
    go_ret3
    refine ⟨Below.refl _ _, .slice none 0 0, ?_, ?_⟩
    · rw [hE.out]; rfl
    · rw [hE.out]; rfl
  · have hbv : badV D16 (tl s) = -1 := by unfold badV; rw [if_neg hb]
    rw [hbv]
    clear hbv
    by_cases hodd : (tl s).length % 2 = 0
    · have hE : Hid (hexE (tl s) = (0, 0)) := by show _ = _; unfold hexE; rw [if_neg hb, if_pos hodd]
      have hall : Hid (∀ j, j < s.size → D16.idxOf (byt s j) < D16.length) := fun j hj => by
        have := fuL_all D16 (tl s) hb j (by rw [hl]; exact hj)
        rw [tl_get s j hj] at this
        exact this
      have ho : (s.size : Int) % 2 = 0 := by omega
      have hVl := hexV_len _ (tl s) (Nat.le_refl _)
      rw [hl] at hVl hodd
      obtain ⟨n, hn⟩ : ∃ n, s.size = 2 * n := ⟨s.size / 2, by omega⟩
      have HN : Hid (s.size = 2 * n) := hn
      have HVL : Hid ((hexV (tl s)).length = n) := by show _ = _; omega
      have HL : Hid ((tl s).length = s.size) := hl
      clear hb hodd hVl hn hl
      go_wp2_with fail
      clear ho
      go_loopw [6, 7] (fun ov i wr => ∃ k : Nat, i = .int .i64 ((2 * k : Nat) : Int) ∧ k ≤ n ∧ Hid (wr.ownsRow w'.heap.size 5 1 ov k (bs ((hexV (tl s)).take k)).toList) ∧ Below w'.heap.size w' wr) (fun _ i _ => s.size - (intOf i).toNat)
      case atStart => exact ⟨0, rfl, by omega, World.ownsRow_nil _ _ _ _, Below.refl _ _⟩
      case round =>
        obtain ⟨k, rfl, hk, HO, bel⟩ := hrel
        by_cases hlt : k < n
        · obtain ⟨I, hI⟩ : ∃ I, I = 2 * k := ⟨_, rfl⟩
          have hIs : I + 1 < s.size := by have := HN.out; omega
          rw [← hI]
          have hI0 : (0 : Int) ≤ (I : Int) := by omega
          have hI1 : (I : Int) < (s.size : Int) := by omega
          have hI2 : (I : Int) + 1 < (s.size : Int) := by omega
          have hI3 : (0 : Int) ≤ (I : Int) + 1 := by omega
          have ix1 := fun (W : World) => idx9 W s I (by omega)
          have ix2 := fun (W : World) => idx9 W s (I + 1) hIs
          obtain ⟨c1, hc1⟩ : ∃ c, c = byt s I := ⟨_, rfl⟩
          obtain ⟨c2, hc2⟩ : ∃ c, c = byt s (I + 1) := ⟨_, rfl⟩
          rw [← hc1] at ix1
          rw [← hc2] at ix2
          have ix2' : ∀ W : World, (Instr.index 9 (.string s) (.int .i64 ((I : Int) + 1))).run Tryz.prog W = .ok (.int .u8 (c2 : Int)) W := fun W => by have := ix2 W; rwa [Int.natCast_add] at this
          have k1 : D16.idxOf c1 < D16.length := by rw [hc1]; exact hall.out I (by omega)
          have k2 : D16.idxOf c2 < D16.length := by rw [hc2]; exact hall.out (I + 1) hIs
          obtain ⟨x, hx⟩ : ∃ x, x = kv D16 c1 := ⟨_, rfl⟩
          obtain ⟨y, hy⟩ : ∃ y, y = kv D16 c2 := ⟨_, rfl⟩
          have hx16 : x < 16 := by rw [hx]; exact kv16_lt k1
          have hy16 : y < 16 := by rw [hy]; exact kv16_lt k2
          have C1 : Hid (∀ W, Calls Tryz.prog 42 #[.string dig16A, .int .u8 (c1 : Int)] W fun e w' => e = .returned (.int .i64 (x : Int)) ∧ w' = W) := fun W => worth16 c1 x hx k1 W
          have C2 : Hid (∀ W, Calls Tryz.prog 42 #[.string dig16A, .int .u8 (c2 : Int)] W fun e w' => e = .returned (.int .i64 (y : Int)) ∧ w' = W) := fun W => worth16 c2 y hy k2 W
          obtain ⟨b, hb⟩ : ∃ b, b = x * 16 + y := ⟨_, rfl⟩
          have wI : IntKind.i64.wrap ((I : Int) + 1) = (I : Int) + 1 := by rw [IntKind.wrap_i64]; omega
          have wx : IntKind.i64.wrap (16 * (x : Int)) = 16 * (x : Int) := by rw [IntKind.wrap_i64]; omega
          have wb : IntKind.i64.wrap (16 * (x : Int) + (y : Int)) = (b : Int) := by rw [IntKind.wrap_i64]; omega
          have w64 : IntKind.i64.wrap (b : Int) = (b : Int) := by rw [IntKind.wrap_i64]; omega
          have hbI : 16 * (x : Int) + (y : Int) = (b : Int) := by omega
          have hbW : IntKind.u8.wrap (b : Int) = (b : Int) := by rw [wraps_u8 _ (by omega) (by omega)]
          have hbM : (b : Int) % 256 = (b : Int) := by omega
          have hmx : k + 1 ≤ maxLen := by unfold maxLen; have := HN.out; omega
          have hby : (k + 1) * 1 ≤ 140737488355328 := by have := HN.out; omega
          have hbz := bel.size
          obtain ⟨i0, hi0, hz0, hz1, hz2⟩ := info_parts info5
          have HI : Hid (I = 2 * k) := hI
          have HV : Hid ((hexV (tl s)).take (k + 1) = (hexV (tl s)).take k ++ [b]) := by
            show _ = _
            rw [hexV_take (tl s) k (by have := HN.out; rw [HL.out]; omega), tl_get s (2 * k) (by have := HN.out; omega), tl_get s (2 * k + 1) (by have := HN.out; omega), ← hI, ← hc1, ← hc2, ← hx, ← hy, ← hb]
          clear hx hy hb hc1 hc2 ix2 hI k1 k2
          go_wp2_with fail
          go_region_held3 (fun _ => True) (trivial)
            (first
              | (go_at_call_of 42 (Value.int IntKind.u8 (c1 : Int)); refine (C1.out _).mono ?_; rintro e wq ⟨rfl, rfl⟩)
              | (go_at_call_of 42 (Value.int IntKind.u8 (c2 : Int)); refine (C2.out _).mono ?_; rintro e wq ⟨rfl, rfl⟩)
              | (refine step_append_lies _ (by rfl) _ _ _ (by rfl) w'.heap.size 5 i0 _ 1 1 Tryz.underlying38 hi0 hz0 hz1 hz2 rfl (by omega) u6 k _ (by rfl) ((HO.out.alloc _).drew)
                  ⟨wr.heap.size, 0, none⟩ 1 1 _ (by rfl) (by rfl) (World.news_of_block (t := 5) (fr := (0, 0)) (heap_alloc_new wr _)) (by simp [Value.oneCell'])
                  (by omega) hmx hby (by simp; omega) (wr.heap.size + 1) (by simp) ?_; intro gg cap w1 hown1 hgrow hat hlt2))
          all_goals
            have hownF : Hid (w1.ownsRow w'.heap.size 5 1 (Value.slice (some ⟨gg, 0, none⟩) (k + 1) cap) (k + 1) (bs ((hexV (tl s)).take (k + 1))).toList) := by
              show World.ownsRow _ _ _ _ _ _ _
              rw [HV.out, bs_app]
              exact hown1
            have hbl1 : Below w'.heap.size w' w1 := below_grown ((bel.alloc (by omega) _).drew) hgrow (by simp; omega) (fun g hg => by have := (HO.out.lt g hg).1; omega)
            clear hown1 hgrow hat HO bel
            go_wp2
            go_roundw
            case rel => exact ⟨k + 1, by rw [HI.out]; go_num, by omega, hownF, hbl1⟩
            case measure => simp [intOf]; omega
        · have hke : k = n := by omega
          subst hke
          have h2 : ((2 * k : Nat) : Int) = (s.size : Int) := by have := HN.out; omega
          rw [h2]
          have HF : Hid (wr.ownsRow w'.heap.size 5 1 u6 (hexV (tl s)).length (bs (hexV (tl s))).toList) := by
            have := HO.out
            rw [List.take_of_length_le (by have := HVL.out; omega)] at this
            show World.ownsRow _ _ _ _ _ _ _
            rw [HVL.out]
            exact this
          clear h2 HO
          go_wp2_with fail
          go_ret3
          refine ⟨bel, u6, ?_, ?_⟩
          · rw [hE.out]; rfl
          · rw [hE.out, if_pos rfl]; exact HF.out
    · have hE : Hid (hexE (tl s) = (3, (tl s).length)) := by show _ = _; unfold hexE; rw [if_neg hb, if_neg hodd]
      rw [hl] at hE
      have ho : (s.size : Int) % 2 = 1 := by omega
      clear hodd hb hl
      go_wp2_with fail
      go_ret3
      refine ⟨Below.refl _ _, .slice none 0 0, ?_, ?_⟩
      · rw [hE.out]; rfl
      · rw [hE.out]; rfl
end Go.Proofs.YtffghlbgbfhfdaaGreatDoor.Hx
