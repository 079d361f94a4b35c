/- The form of a hash text; what stands behind its head: the code's. -/
import Derived.Test.YtkppejaigodgiabDoorUn64
import Derived.Test.YtkppejaigodgiabDoorShow
namespace Go.Proofs.YtkppejaigodgiabDoor
open Go.RowKit
theorem str_tl (s : ByteArray) : str (tl s) = s := by
  apply ByteArray.ext
  apply Array.ext
  · show (str (tl s)).size = s.size
    rw [str_size, tl_len]
  · intro i h1 h2
    have e : byt s i = (s.data[i]'h2).toNat := byt_data s i h2
    simp [str, strOfNums, tl, e]
theorem tl_inj {a b : ByteArray} (h : tl a = tl b) : a = b := by rw [← str_tl a, h, str_tl]
theorem byt_str (l : List Nat) (hb : ∀ x ∈ l, x < 256) : tl (str l) = l := by
  apply List.ext_getElem
  · rw [tl_len, str_size]
  · intro i h1 h2
    simp only [tl, List.getElem_map, List.getElem_range]
    rw [byt_data _ _ (by rw [str_size]; exact h2)]
    have := hb _ (List.getElem_mem h2)
    simp [str, strOfNums]
    omega
set_option maxRecDepth 100000 in
set_option maxHeartbeats 1000000 in
theorem shared_any (a b : ByteArray) (ha : a.size ≤ 1152921504606846976) (hb : b.size ≤ 1152921504606846976) (w : World) :
    Calls Tryd.prog 60 #[.string a, .string b] w fun e w' => e = .returned (.int .i64 ((shL (tl a) (tl b) : Nat) : Int)) ∧ Below w.heap.size w w' := by
  have HL : Hid (shL (tl a) (tl b) ≤ a.size ∧ shL (tl a) (tl b) ≤ b.size) := by
    have := shL_le (tl a) (tl b)
    rw [tl_len, tl_len] at this
    exact this
  go_enter Tryd.func60, Tryd.ntmps60
  go_wp2_with fail
  go_loopw [5] (fun i wr => ∃ k : Nat, i = .int .i64 (k : Int) ∧ Hid (k ≤ shL (tl a) (tl b)) ∧ k ≤ a.size ∧ k ≤ b.size ∧ Below w.heap.size w wr) (fun i _ => a.size - (intOf i).toNat)
  case atStart => exact ⟨0, rfl, Nat.zero_le _, by omega, by omega, Below.refl _ w⟩
  case round =>
    obtain ⟨k, rfl, HK, hka, hkb, bel⟩ := hrel
    by_cases h1 : k < a.size
    · have h1' : (k : Int) < (a.size : Int) := by omega
      have hk0 : (0 : Int) ≤ (k : Int) := by omega
      by_cases h2 : k < b.size
      · have h2' : (k : Int) < (b.size : Int) := by omega
        obtain ⟨x, hx⟩ : ∃ x, x = byt a k := ⟨_, rfl⟩
        obtain ⟨y, hy⟩ : ∃ y, y = byt b k := ⟨_, rfl⟩
        have hix : ∀ W : World, (Instr.index 9 (.string a) (.int .i64 (k : Int))).run Tryd.prog W = .ok (.int .u8 (x : Int)) W := fun W => by rw [hx]; exact idx9 W a k h1
        have hiy : ∀ W : World, (Instr.index 9 (.string b) (.int .i64 (k : Int))).run Tryd.prog W = .ok (.int .u8 (y : Int)) W := fun W => by rw [hy]; exact idx9 W b k h2
        have HS : Hid ((x = y → k + 1 ≤ shL (tl a) (tl b)) ∧ (¬ x = y → shL (tl a) (tl b) = k)) := by
          have := shL_step (tl a) (tl b) k HK.out (by rw [tl_len]; exact h1) (by rw [tl_len]; exact h2)
          rw [tl_get a k h1, tl_get b k h2, ← hx, ← hy] at this
          exact this
        clear hx hy
        by_cases hxy : x = y
        · subst hxy
          have HK1 : Hid (k + 1 ≤ shL (tl a) (tl b)) := HS.out.1 rfl
          clear HS
          go_wp2
          go_quiet (fail)
          go_wp2
          go_roundw
          case rel => exact ⟨k + 1, by go_num, HK1, by omega, by omega, Below.drewN' bel _⟩
          case measure => simp [intOf]; omega
        · have hxy' : ¬ ((x : Int) = (y : Int)) := by omega
          have HE : Hid (shL (tl a) (tl b) = k) := HS.out.2 hxy
          clear HS HK
          go_wp2
          go_quiet (fail)
          go_wp2
          go_ret
          exact ⟨by rw [HE.out]; rfl, Below.drewN' bel _⟩
      · have h2' : decide ((k : Int) < (b.size : Int)) = false := by rw [decide_eq_false]; omega
        have HE : Hid (shL (tl a) (tl b) = k) := by show _ = _; have := HK.out; have := HL.out; omega
        clear HK
        go_wp2
        go_quiet (fail)
        go_wp2
        go_ret
        exact ⟨by rw [HE.out]; rfl, Below.drewN' bel _⟩
    · have h1' : decide ((k : Int) < (a.size : Int)) = false := by rw [decide_eq_false]; omega
      have HE : Hid (shL (tl a) (tl b) = k) := by show _ = _; have := HK.out; have := HL.out; omega
      clear HK
      go_wp2
      go_quiet (fail)
      go_wp2
      go_ret
      exact ⟨by rw [HE.out]; rfl, Below.drewN' bel _⟩
theorem seq_iff (a b : ByteArray) : (a.toList == b.toList) = true ↔ a = b := by
  rw [beq_iff_eq, ByteArray.toList_eq, ByteArray.toList_eq]
  constructor
  · intro h
    exact ByteArray.ext (Array.ext' h)
  · intro h
    rw [h]
theorem pre_iff (s p : ByteArray) (h : p.size ≤ s.size) : ((s.extract 0 p.size).toList == p.toList) = (tl p).isPrefixOf (tl s) := by
  have h1 : tl (s.extract 0 p.size) = (tl s).take p.size := tl_take s p.size h
  have hp := tl_len p
  rw [Bool.eq_iff_iff, seq_iff, List.isPrefixOf_iff_prefix, List.prefix_iff_eq_take, hp]
  constructor
  · intro e
    rw [← h1, e]
  · intro e
    exact tl_inj (by rw [h1]; exact e.symm)
theorem pre_long (s p : ByteArray) (h : ¬ p.size ≤ s.size) : (tl p).isPrefixOf (tl s) = false := by
  rw [← Bool.not_eq_true, List.isPrefixOf_iff_prefix]
  intro hp
  have := hp.length_le
  rw [tl_len, tl_len] at this
  exact h this
set_option maxHeartbeats 1000000 in
theorem hasp_in (s p : ByteArray) (hp : p.size ≤ 1152921504606846976) (w : World) :
    Calls Tryd.prog 66 #[.string s, .string p] w fun e w' => e = .returned (.bool ((tl p).isPrefixOf (tl s))) ∧ w' = w := by
  by_cases h : p.size ≤ s.size
  · have h' : (p.size : Int) ≤ (s.size : Int) := by omega
    have hn0 : (0 : Int) ≤ (p.size : Int) := by omega
    have HE : Hid (((s.extract 0 p.size).toList == p.toList) = (tl p).isPrefixOf (tl s)) := pre_iff s p h
    obtain ⟨d, hd⟩ : ∃ d, d = s.extract 0 p.size := ⟨_, rfl⟩
    have hd' : s.extract 0 p.size = d := hd.symm
    rw [hd'] at HE
    clear hd
    go_enter Tryd.func66, Tryd.ntmps66
    go_wp2
    go_ret
    exact ⟨by rw [← HE.out]; rfl, rfl⟩
  · have h' : ¬ ((p.size : Int) ≤ (s.size : Int)) := by omega
    have HE : Hid ((tl p).isPrefixOf (tl s) = false) := pre_long s p h
    go_enter Tryd.func66, Tryd.ntmps66
    go_wp2
    go_ret
    exact ⟨by rw [HE.out]; rfl, rfl⟩
theorem hasp_any (s p : ByteArray) (hp : p.size ≤ 1152921504606846976) (w : World) :
    Calls Tryd.prog 59 #[.string s, .string p] w fun e w' => e = .returned (.bool ((tl p).isPrefixOf (tl s))) ∧ w' = w := by
  have C := hasp_in s p hp w
  go_enter Tryd.func59, Tryd.ntmps59
  go_wp2_with fail
  refine C.mono ?_
  rintro e w' ⟨rfl, rfl⟩
  go_wp2
  go_ret
  exact ⟨rfl, rfl⟩
def fmR (t : List Nat) : Nat × Nat × Nat := match fmL t with
  | some f => (f, 0, 0)
  | none => (0, 12, max (shL t colonL) (shL t dashL))
theorem tl_colon : tl colon = colonL := by decide +kernel
theorem tl_dash : tl dash = dashL := by decide +kernel
set_option maxRecDepth 100000 in
set_option maxHeartbeats 3200000 in
theorem formOf_any (s : ByteArray) (hs : s.size ≤ 1152921504606846976) (w : World) :
    Calls Tryd.prog 44 #[.string s] w fun e w' => e = .returned (.tuple #[.int .i64 (((fmR (tl s)).1 : Nat) : Int), .int .i64 (((fmR (tl s)).2.1 : Nat) : Int), .int .i64 (((fmR (tl s)).2.2 : Nat) : Int)]) ∧ Below w.heap.size w w' := by
  have HC : Hid (∀ W, Calls Tryd.prog 59 #[.string s, .string colon] W fun e w' => e = .returned (.bool (colonL.isPrefixOf (tl s))) ∧ w' = W) := fun W => by rw [← tl_colon]; exact hasp_any s colon (by decide) W
  have HD : Hid (∀ W, Calls Tryd.prog 59 #[.string s, .string dash] W fun e w' => e = .returned (.bool (dashL.isPrefixOf (tl s))) ∧ w' = W) := fun W => by rw [← tl_dash]; exact hasp_any s dash (by decide) W
  have SC : Hid (∀ W, Calls Tryd.prog 60 #[.string s, .string colon] W fun e w' => e = .returned (.int .i64 ((shL (tl s) colonL : Nat) : Int)) ∧ Below W.heap.size W w') := fun W => by rw [← tl_colon]; exact shared_any s colon hs (by decide) W
  have SD : Hid (∀ W, Calls Tryd.prog 60 #[.string s, .string dash] W fun e w' => e = .returned (.int .i64 ((shL (tl s) dashL : Nat) : Int)) ∧ Below W.heap.size W w') := fun W => by rw [← tl_dash]; exact shared_any s dash hs (by decide) W
  have HV : Hid (fmR (tl s) = if dashL.isPrefixOf (tl s) = true ∧ s.size = 51 then (2, 0, 0) else if colonL.isPrefixOf (tl s) = true ∧ s.size = 71 then (0, 0, 0) else if colonL.isPrefixOf (tl s) = true ∧ s.size = 59 then (1, 0, 0) else (0, 12, max (shL (tl s) colonL) (shL (tl s) dashL))) := by
    show _ = _
    unfold fmR fmL
    rw [tl_len]
    by_cases h1 : dashL.isPrefixOf (tl s) = true ∧ s.size = 51
    · rw [if_pos h1, if_pos h1]
    · rw [if_neg h1, if_neg h1]
      by_cases h2 : colonL.isPrefixOf (tl s) = true ∧ s.size = 71
      · rw [if_pos h2, if_pos h2]
      · rw [if_neg h2, if_neg h2]
        by_cases h3 : colonL.isPrefixOf (tl s) = true ∧ s.size = 59
        · rw [if_pos h3, if_pos h3]
        · rw [if_neg h3, if_neg h3]
  have hle : Hid (shL (tl s) colonL ≤ 7 ∧ shL (tl s) dashL ≤ 7) := ⟨(shL_le _ _).2, (shL_le _ _).2⟩
  obtain ⟨pd, hpd⟩ : ∃ b, b = dashL.isPrefixOf (tl s) := ⟨_, rfl⟩
  obtain ⟨pc, hpc⟩ : ∃ b, b = colonL.isPrefixOf (tl s) := ⟨_, rfl⟩
  obtain ⟨x, hx⟩ : ∃ x, x = shL (tl s) colonL := ⟨_, rfl⟩
  obtain ⟨y, hy⟩ : ∃ x, x = shL (tl s) dashL := ⟨_, rfl⟩
  rw [← hpd] at HD HV
  rw [← hpc] at HC HV
  rw [← hx] at SC HV hle
  rw [← hy] at SD HV hle
  clear hpd hpc hx hy
  obtain ⟨n, hn⟩ : ∃ n : Int, n = (s.size : Int) - 7 := ⟨_, rfl⟩
  have hnW : IntKind.i64.wrap ((s.size : Int) - 7) = n := by rw [IntKind.wrap_i64]; omega
  have hn' : (s.size : Int) - 7 = n := hn.symm
  have B0 : Hid (Below w.heap.size w w) := Below.refl _ w
  have c51 : s.size = 51 ↔ n = 44 := by omega
  have c71 : s.size = 71 ↔ n = 64 := by omega
  have c59 : s.size = 59 ↔ n = 52 := by omega
  simp only [c51, c71, c59] at HV
  clear hn c51 c71 c59
  have hmx : max (x : Int) (y : Int) = ((max x y : Nat) : Int) := by omega
  by_cases hA : pd = true ∧ n = 44
  · obtain ⟨rfl, rfl⟩ := hA
    go_enter Tryd.func44, Tryd.ntmps44
    go_wp2_with fail
    refine (HD.out _).mono ?_
    rintro e w' ⟨rfl, rfl⟩
    go_wp2
    go_ret3
    exact ⟨by rw [HV.out]; rfl, B0.out⟩
  · rw [if_neg hA] at HV
    have hA' : (pd = true ∧ ¬ n = 44) ∨ pd = false := by
      cases pd with
      | true => exact .inl ⟨rfl, fun h => hA ⟨rfl, h⟩⟩
      | false => exact .inr rfl
    clear hA
    go_enter Tryd.func44, Tryd.ntmps44
    go_wp2_with fail
    refine (HD.out _).mono ?_
    rintro e w' ⟨rfl, rfl⟩
    rcases hA' with ⟨rfl, hA⟩ | rfl
    all_goals
      as_aux_lemma =>
      go_wp2_with fail
      refine (HC.out _).mono ?_
      rintro e w1 ⟨rfl, rfl⟩
      cases pc with
      | true =>
        by_cases h71 : n = 64
        · subst h71
          go_wp2
          go_ret3
          exact ⟨by rw [HV.out]; rfl, B0.out⟩
        · rw [if_neg (fun h => h71 h.2)] at HV
          go_wp2_with fail
          refine (HC.out _).mono ?_
          rintro e w2 ⟨rfl, rfl⟩
          by_cases h59 : n = 52
          · subst h59
            go_wp2
            go_ret3
            exact ⟨by rw [HV.out]; rfl, B0.out⟩
          · rw [if_neg (fun h => h59 h.2)] at HV
            go_wp2_with fail
            refine (SC.out _).mono ?_
            rintro e w3 ⟨rfl, b3⟩
            go_wp2_with fail
            refine (SD.out _).mono ?_
            rintro e w4 ⟨rfl, b4⟩
            have b5 := b3.trans (b4.mono b3.size)
            go_wp2
            all_goals
              go_ret3
              exact ⟨by rw [HV.out]; first | (rw [Nat.max_eq_right (by omega)]; rfl) | (rw [Nat.max_eq_left (by omega)]; rfl), b5⟩
      | false =>
        rw [if_neg (fun h => by cases h.1), if_neg (fun h => by cases h.1)] at HV
        go_wp2_with fail
        refine (HC.out _).mono ?_
        rintro e w2 ⟨rfl, rfl⟩
        go_wp2_with fail
        refine (SC.out _).mono ?_
        rintro e w3 ⟨rfl, b3⟩
        go_wp2_with fail
        refine (SD.out _).mono ?_
        rintro e w4 ⟨rfl, b4⟩
        have b5 := b3.trans (b4.mono b3.size)
        go_wp2
        all_goals
          go_ret3
          exact ⟨by rw [HV.out]; first | (rw [Nat.max_eq_right (by omega)]; rfl) | (rw [Nat.max_eq_left (by omega)]; rfl), b5⟩
set_option maxHeartbeats 3200000 in
theorem readForm_any (s : ByteArray) (hs : s.size ≤ 187649984473770) (f : Nat) (hf : f < 3) (w : World) (ht : Tx w) :
    Calls Tryd.prog 45 #[.string s, .int .i64 (f : Int)] w (RdP (unF f (tl s)).1 (unF f (tl s)).2 w) := by
  have : f = 0 ∨ f = 1 ∨ f = 2 := by omega
  rcases this with rfl | rfl | rfl
  · have C := unhex_any s (by omega) w ht
    go_enter Tryd.func45, Tryd.ntmps45
    go_wp2_with fail
    refine C.mono ?_
    rintro e w' ⟨b, v, rfl, hv⟩
    go_wp2
    go_ret3
    exact ⟨b, v, rfl, hv⟩
  · have C := un32_any s (by omega) w ht
    go_enter Tryd.func45, Tryd.ntmps45
    go_wp2_with fail
    refine C.mono ?_
    rintro e w' ⟨b, v, rfl, hv⟩
    go_wp2
    go_ret3
    exact ⟨b, v, rfl, hv⟩
  · have C := un64_any s hs w ht
    go_enter Tryd.func45, Tryd.ntmps45
    go_wp2_with fail
    refine C.mono ?_
    rintro e w' ⟨b, v, rfl, hv⟩
    go_wp2
    go_ret3
    exact ⟨b, v, rfl, hv⟩
end Go.Proofs.YtkppejaigodgiabDoor
