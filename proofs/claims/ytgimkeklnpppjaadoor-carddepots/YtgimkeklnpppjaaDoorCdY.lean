/- The document's number. -/
import Derived.Test.YtgimkeklnpppjaaDoorCdX
namespace Go.Proofs.YtgimkeklnpppjaaDoor
open Go.RowKit Go.Shelf
def nbT (l : List UInt8) : Value := .tuple #[.int .i64 (((nbV l).1 : Nat) : Int), .bool (nbV l).2]
theorem dv_no {c : UInt8} (h : c.toNat < 48 ∨ 57 < c.toNat) : Lib.digitVal c = none := by
  unfold Lib.digitVal
  rw [if_neg (by omega)]
theorem dv_yes {c : UInt8} (h1 : 48 ≤ c.toNat) (h2 : c.toNat ≤ 57) : Lib.digitVal c = some (c.toNat - 48) := by
  have := dv_mk (c.toNat - 48) (by omega)
  rw [show 48 + (c.toNat - 48) = c.toNat by omega, UInt8.ofNat_toNat] at this
  exact this
theorem drop_byt (s : ByteArray) (i : Nat) (h : i < s.size) : ∃ c : UInt8, s.data.toList.drop i = c :: s.data.toList.drop (i + 1) ∧ c.toNat = byt s i := by
  have hl : i < s.data.toList.length := by rw [Array.length_toList]; exact h
  refine ⟨s.data.toList[i], List.drop_eq_getElem_cons hl, ?_⟩
  rw [← byt_at s i h]
  rfl
theorem head_byt (s : ByteArray) (h : 0 < s.size) : s.data.toList.head? = some 48 ↔ byt s 0 = 48 := by
  obtain ⟨c, h1, h2⟩ := drop_byt s 0 h
  rw [List.drop_zero] at h1
  rw [h1, List.head?_cons, ← h2]
  constructor
  · intro h
    injection h with h
    rw [h]
    rfl
  · intro h
    rw [u8_eq (a := c) (b := 48) h]
set_option maxRecDepth 100000 in
set_option maxHeartbeats 3200000 in
theorem number_any (s : ByteArray) (w : World) :
    Calls Tryd.prog 14 #[.string s] w fun e w' => e = .returned (nbT s.data.toList) ∧ w' = w := by
  have hl : s.data.toList.length = s.size := Array.length_toList
  by_cases h0 : s.size < 1
  · have h0' : (s.size : Int) < 1 := by omega
    have HV : Hid (nbT s.data.toList = .tuple #[.int .i64 0, .bool false]) := by show _ = _; unfold nbT nbV; rw [if_pos (.inl (by omega))]; rfl
    clear hl h0
    go_enter Tryd.func14, Tryd.ntmps14
    go_wp2
    go_ret2
    exact ⟨by rw [HV.out]; rfl, rfl⟩
  have h0' : ¬ ((s.size : Int) < 1) := by omega
  by_cases h9 : 9 < s.size
  · have h9' : (9 : Int) < (s.size : Int) := by omega
    have HV : Hid (nbT s.data.toList = .tuple #[.int .i64 0, .bool false]) := by show _ = _; unfold nbT nbV; rw [if_pos (.inr (.inl (by omega)))]; rfl
    clear hl h0 h9
    go_enter Tryd.func14, Tryd.ntmps14
    go_wp2
    go_ret2
    exact ⟨by rw [HV.out]; rfl, rfl⟩
  have h9' : ¬ ((9 : Int) < (s.size : Int)) := by omega
  have ix0 : (Instr.index 9 (.string s) (.int .i64 0)).run Tryd.prog w = .ok (.int .u8 ((byt s 0 : Nat) : Int)) w := idx9 w s 0 (by omega)
  by_cases hz : byt s 0 = 48 ∧ 1 < s.size
  · have hz1 : ((byt s 0 : Nat) : Int) = 48 := by omega
    have hz2 : (1 : Int) < (s.size : Int) := by omega
    rw [hz1] at ix0
    have HV : Hid (nbT s.data.toList = .tuple #[.int .i64 0, .bool false]) := by show _ = _; unfold nbT nbV; rw [if_pos (.inr (.inr ⟨(head_byt s (by omega)).2 hz.1, by omega⟩))]; rfl
    clear hl h0 h9 hz
    go_enter Tryd.func14, Tryd.ntmps14
    go_wp2
    go_ret2
    exact ⟨by rw [HV.out]; rfl, rfl⟩
  obtain ⟨l, hll⟩ : ∃ l, l = s.data.toList := ⟨_, rfl⟩
  have HV : Hid (nbT s.data.toList = match Lib.decFrom 0 l with | some n => .tuple #[.int .i64 ((n : Nat) : Int), .bool true] | none => .tuple #[.int .i64 0, .bool false]) := by
    show _ = _
    unfold nbT nbV
    rw [if_neg (fun h => by rcases h with h | h | h
                            · omega
                            · omega
                            · exact hz ⟨(head_byt s (by omega)).1 h.1, by omega⟩), hll]
    cases Lib.decFrom 0 s.data.toList <;> rfl
  have HL : Hid (l = s.data.toList ∧ 1 ≤ s.size ∧ s.size ≤ 9) := ⟨hll, by omega, by omega⟩
  have hcase : (((byt s 0 : Nat) : Int) = 48 ∧ ¬ ((1 : Int) < (s.size : Int))) ∨ ¬ (((byt s 0 : Nat) : Int) = 48) := by omega
  obtain ⟨V, hV⟩ : ∃ V, V = nbT s.data.toList := ⟨_, rfl⟩
  rw [← hV] at HV ⊢
  clear hl h0 h9 hll hz hV
  rcases hcase with ⟨hz1, hz2⟩ | hz1
  all_goals
    try rw [hz1] at ix0
    go_enter Tryd.func14, Tryd.ntmps14
    go_wp2_with fail
    go_loopw [4, 5] (fun nv iv wr => wr = w ∧ ∃ (n i : Nat), nv = .int .i64 (n : Int) ∧ iv = .int .i64 (i : Int) ∧ i ≤ s.size ∧ n < 10 ^ i ∧ Hid (Lib.decFrom n (l.drop i) = Lib.decFrom 0 l)) (fun _ iv _ => s.size - (intOf iv).toNat)
    case atStart => exact ⟨rfl, 0, 0, rfl, rfl, Nat.zero_le _, by omega, by show _ = _; rw [List.drop_zero]⟩
    case round =>
      obtain ⟨rfl, n, i, rfl, rfl, hi, hn, HD⟩ := hrel
      by_cases hlt : i < s.size
      · have hlt' : (i : Int) < (s.size : Int) := by omega
        have ixi := idx9 wr s i hlt
        obtain ⟨c, hc1, hc2⟩ := drop_byt s i hlt
        have HD2 := HD.out
        rw [HL.out.1, hc1, ← HL.out.1, Lib.decFrom] at HD2
        have hb := byt_lt s i
        by_cases hlo : byt s i < 48
        · have hlo' : ((byt s i : Nat) : Int) < 48 := by omega
          rw [dv_no (.inl (by omega))] at HD2
          have HV2 : Hid (V = .tuple #[.int .i64 0, .bool false]) := by have := HV.out; rw [← HD2] at this; exact this
          clear HD HD2 hc1 hc2 hn hi hlt hlo hb
          go_wp2
          go_ret2
          exact ⟨by rw [HV2.out]; rfl, rfl⟩
        have hlo' : ¬ (((byt s i : Nat) : Int) < 48) := by omega
        by_cases hhi : 57 < byt s i
        · have hhi' : 57 < ((byt s i : Nat) : Int) := by omega
          rw [dv_no (.inr (by omega))] at HD2
          have HV2 : Hid (V = .tuple #[.int .i64 0, .bool false]) := by have := HV.out; rw [← HD2] at this; exact this
          clear HD HD2 hc1 hc2 hn hi hlt hlo hb hhi
          go_wp2
          go_ret2
          exact ⟨by rw [HV2.out]; rfl, rfl⟩
        have hhi' : ¬ (57 < ((byt s i : Nat) : Int)) := by omega
        rw [dv_yes (by omega) (by omega)] at HD2
        simp only at HD2
        have hp : 10 ^ i ≤ 10 ^ 8 := Nat.pow_le_pow_right (by omega) (by have := HL.out; omega)
        have hn8 : n < 100000000 := Nat.lt_of_lt_of_le hn hp
        obtain ⟨m, hm⟩ : ∃ m, m = 10 * n := ⟨_, rfl⟩
        obtain ⟨d, hd⟩ : ∃ d, d = byt s i - 48 := ⟨_, rfl⟩
        obtain ⟨n2, hn2⟩ : ∃ n2, n2 = m + d := ⟨_, rfl⟩
        have w1 : IntKind.i64.wrap (10 * (n : Int)) = (m : Int) := by rw [IntKind.wrap_i64]; omega
        have w2 : IntKind.u8.wrap (((byt s i : Nat) : Int) - 48) = (d : Int) := by rw [IntKind.wrap_u8]; omega
        have w3 : IntKind.i64.wrap (d : Int) = (d : Int) := by rw [IntKind.wrap_i64]; omega
        have w4 : IntKind.i64.wrap ((m : Int) + (d : Int)) = (n2 : Int) := by rw [IntKind.wrap_i64]; omega
        have w5 : IntKind.i64.wrap ((i : Int) + 1) = ((i + 1 : Nat) : Int) := by rw [IntKind.wrap_i64]; have := HL.out; omega
        have HE : Hid (Lib.decFrom n2 (l.drop (i + 1)) = Lib.decFrom 0 l) := by
          show _ = _
          rw [← HD2]
          congr 1
          rw [← hc2] at hd
          omega
        have HN : Hid (n2 < 10 ^ (i + 1)) := by
          show _ < _
          rw [Nat.pow_succ]
          omega
        clear HD HD2 hc1 hc2 hn hb hlo hhi hp hn8 hm hd hn2 hi
        go_wp2
        go_roundw
        case rel => exact ⟨trivial, n2, i + 1, rfl, rfl, hlt, HN.out, HE⟩
        case measure => simp [intOf]; omega
      · have hlt' : ¬ ((i : Int) < (s.size : Int)) := by omega
        have HV2 : Hid (V = .tuple #[.int .i64 (n : Int), .bool true]) := by
          have h1 := HD.out
          have h2 := HV.out
          rw [List.drop_eq_nil_of_le (by rw [HL.out.1, Array.length_toList]; show s.size ≤ i; omega), Lib.decFrom] at h1
          rw [← h1] at h2
          exact h2
        clear HD hn hi hlt
        go_wp2
        go_ret2
        exact ⟨by rw [HV2.out]; rfl, rfl⟩
end Go.Proofs.YtgimkeklnpppjaaDoor
