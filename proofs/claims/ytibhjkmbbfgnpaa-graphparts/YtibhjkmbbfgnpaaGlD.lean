/- Graphs in order: one more in the heap, one less. -/
import Derived.Test.YtibhjkmbbfgnpaaGlC
namespace Go.Proofs.Ytibhjkmbbfgnpaa
open Go.RowKit
set_option maxRecDepth 100000 in
set_option maxHeartbeats 1600000 in
theorem push_any (w : World) (fb : Nat) (v : Value) (F : List Nat) (h : Hp fb v F w) (hn : F.length ≤ 100000) (x : Nat) : Calls Try.prog 77 #[.iface 110 (.pointer (some ⟨fb, 0, none⟩)), .iface 3 (.int .i64 (x : Int))] w fun e w' => e = .returned (.tuple #[]) ∧ ∃ v' F', F'.Perm (F ++ [x]) ∧ Hp fb v' F' w' ∧ Ch fb v v' w w' := by
  have mt := mtPush (.pointer (some ⟨fb, 0, none⟩)) w
  have C1 : Hid (Calls Try.prog 123 #[.pointer (some ⟨fb, 0, none⟩), .iface 3 (.int .i64 (x : Int))] w fun e w' => e = .returned (.tuple #[]) ∧ ∃ v', Hp fb v' (F ++ [x]) w' ∧ Ch fb v v' w w') := mpush_any w fb v F h (by omega) x
  have HN : Hid (F.length ≤ 100000) := hn
  clear h hn
  go_enter Try.func77, Try.ntmps77
  go_wp2_with fail
  with_reducible refine Calls.mono C1.out ?_
  rintro en W1 ⟨rfl, v', h1, c1⟩
  have hl : (F ++ [x]).length = F.length + 1 := by simp
  obtain ⟨n, hn⟩ : ∃ n, F.length = n := ⟨_, rfl⟩
  obtain ⟨b, c, -, e, -, -⟩ := own_at h1.own (by simp)
  rw [hl, hn] at e
  subst e
  have mt2 := mt_of rowLen ⟨fb, 0, none⟩ W1 _ h1.cell.1
  have C2 : Hid (Calls Try.prog 78 #[.slice (some ⟨b, 0, none⟩) (n + 1) c] W1 fun e w' => e = .returned (.int .i64 ((n + 1 : Nat) : Int)) ∧ w' = W1) := len_any W1 (some ⟨b, 0, none⟩) (n + 1) c
  have w1 : wrap64 ((n : Int) + 1 - 1) = (n : Int) := by unfold wrap64; have := HN.out; omega
  have w2 : wrap64 (n : Int) = (n : Int) := by unfold wrap64; have := HN.out; omega
  have C3 : Hid (Calls Try.prog 97 #[.iface 110 (.pointer (some ⟨fb, 0, none⟩)), .int .i64 (n : Int)] W1 fun e w' => e = .returned (.tuple #[]) ∧ ∃ F', F'.Perm (F ++ [x]) ∧ Hp fb (.slice (some ⟨b, 0, none⟩) (n + 1) c) F' w' ∧ Ch fb (.slice (some ⟨b, 0, none⟩) (n + 1) c) (.slice (some ⟨b, 0, none⟩) (n + 1) c) W1 w') := up_any W1 fb b c (n + 1) (F ++ [x]) h1 (by simp [hn]) (by have := HN.out; omega) n (by omega)
  have HC : Hid (Ch fb v (.slice (some ⟨b, 0, none⟩) (n + 1) c) w W1) := c1
  clear h1 c1 hl hn
  go_wp2_with fail
  with_reducible refine Calls.mono C2.out ?_
  rintro en W2 ⟨rfl, rfl⟩
  go_wp2_with fail
  with_reducible refine Calls.mono C3.out ?_
  rintro en W3 ⟨rfl, F', p3, h3, c3⟩
  have HE : Hid (∃ v' F', F'.Perm (F ++ [x]) ∧ Hp fb v' F' W3 ∧ Ch fb v v' w W3) := ⟨_, F', p3, h3, HC.out.trans c3⟩
  clear p3 h3 c3
  go_wp2_with fail
  go_end0
  exact ⟨rfl, HE.out⟩
set_option maxRecDepth 100000 in
set_option maxHeartbeats 1600000 in
theorem pop_any (w : World) (fb : Nat) (v : Value) (F : List Nat) (h : Hp fb v F w) (hn : F.length ≤ 100000) (h0 : 0 < F.length) : Calls Try.prog 79 #[.iface 110 (.pointer (some ⟨fb, 0, none⟩))] w fun e w' => ∃ (x : Nat) (v' : Value) (F' : List Nat), e = .returned (.iface 3 (.int .i64 (x : Int))) ∧ F.Perm (x :: F') ∧ Hp fb v' F' w' ∧ Ch fb v v' w w' := by
  obtain ⟨n, hl⟩ : ∃ n, F.length = n + 1 := ⟨F.length - 1, by omega⟩
  obtain ⟨b, c, -, e, -, -⟩ := own_at h.own h0
  rw [hl] at e
  subst e
  have mt := mt_of rowLen ⟨fb, 0, none⟩ w _ h.cell.1
  have mt2 := mt_of rowSwap ⟨fb, 0, none⟩ w _ h.cell.1
  have C1 : Hid (Calls Try.prog 78 #[.slice (some ⟨b, 0, none⟩) (n + 1) c] w fun e w' => e = .returned (.int .i64 ((n + 1 : Nat) : Int)) ∧ w' = w) := len_any w (some ⟨b, 0, none⟩) (n + 1) c
  have w1 : wrap64 ((n : Int) + 1 - 1) = (n : Int) := by unfold wrap64; omega
  have w2 : wrap64 (n : Int) = (n : Int) := by unfold wrap64; omega
  have CS := swapH (.refl F) h hl (.refl _ _ _) 0 n (by omega) (by omega)
  have C2 : Hid (Calls Try.prog 124 #[.slice (some ⟨b, 0, none⟩) (n + 1) c, .int .i64 0, .int .i64 (n : Int)] w fun e w' => e = .returned (.tuple #[]) ∧ ∃ F', F'.Perm F ∧ Hp fb (.slice (some ⟨b, 0, none⟩) (n + 1) c) F' w' ∧ Ch fb (.slice (some ⟨b, 0, none⟩) (n + 1) c) (.slice (some ⟨b, 0, none⟩) (n + 1) c) w w') := CS
  have HN : Hid (F.length = n + 1 ∧ F.length ≤ 100000) := ⟨hl, hn⟩
  clear h hn h0 hl CS
  go_enter Try.func79, Try.ntmps79
  go_wp2_with fail
  with_reducible refine Calls.mono C1.out ?_
  rintro en W1 ⟨rfl, rfl⟩
  go_wp2_with fail
  with_reducible refine Calls.mono C2.out ?_
  rintro en W2 ⟨rfl, F2, p2, h2, c2⟩
  have C3 : Hid (Calls Try.prog 98 #[.iface 110 (.pointer (some ⟨fb, 0, none⟩)), .int .i64 0, .int .i64 (n : Int)] W2 fun e w' => (∃ q, e = .returned (.bool q)) ∧ ∃ F', F'.Perm F2 ∧ Hp fb (.slice (some ⟨b, 0, none⟩) (n + 1) c) F' w' ∧ Ch fb (.slice (some ⟨b, 0, none⟩) (n + 1) c) (.slice (some ⟨b, 0, none⟩) (n + 1) c) W2 w') := down_any W2 fb b c (n + 1) F2 h2 (by rw [p2.length_eq]; exact HN.out.1) (by have := HN.out; omega) n (by omega)
  have H2 : Hid (F2.Perm F ∧ Ch fb (.slice (some ⟨b, 0, none⟩) (n + 1) c) (.slice (some ⟨b, 0, none⟩) (n + 1) c) W1 W2) := ⟨p2, c2⟩
  clear p2 h2 c2
  go_wp2_with fail
  with_reducible refine Calls.mono C3.out ?_
  rintro en W3 ⟨⟨q, rfl⟩, F3, p3, h3, c3⟩
  obtain ⟨G, x, hG⟩ : ∃ G x, F3 = G ++ [x] := by
    rcases F3.eq_nil_or_concat with e | ⟨G, x, e⟩
    · have := p3.length_eq
      rw [H2.out.1.length_eq, HN.out.1, e] at this
      simp at this
    · exact ⟨G, x, by rw [e]; simp⟩
  subst hG
  have lG : G.length = n := by
    have := p3.length_eq
    rw [H2.out.1.length_eq, HN.out.1] at this
    simpa using this
  have mt3 := mtPop (.pointer (some ⟨fb, 0, none⟩)) W3
  have C4 : Hid (Calls Try.prog 122 #[.pointer (some ⟨fb, 0, none⟩)] W3 fun e w' => e = .returned (.iface 3 (.int .i64 (x : Int))) ∧ ∃ v', Hp fb v' G w' ∧ Ch fb (.slice (some ⟨b, 0, none⟩) (n + 1) c) v' W3 w') := mpop_any W3 fb _ G x h3 (by have := HN.out; omega)
  have H3 : Hid (F.Perm (x :: G) ∧ Ch fb (.slice (some ⟨b, 0, none⟩) (n + 1) c) (.slice (some ⟨b, 0, none⟩) (n + 1) c) W1 W3) := ⟨(H2.out.1.symm.trans p3.symm).trans (List.perm_append_singleton x G), H2.out.2.trans c3⟩
  clear p3 h3 c3 lG
  go_wp2_with fail
  with_reducible refine Calls.mono C4.out ?_
  rintro en W4 ⟨rfl, v4, h4, c4⟩
  have HE : Hid (∃ v' F', F.Perm (x :: F') ∧ Hp fb v' F' W4 ∧ Ch fb (.slice (some ⟨b, 0, none⟩) (n + 1) c) v' W1 W4) := ⟨v4, G, H3.out.1, h4, H3.out.2.trans c4⟩
  clear h4 c4
  go_wp2_with fail
  go_ret
  obtain ⟨v', F', e1, e2, e3⟩ := HE.out
  exact ⟨x, v', F', rfl, e1, e2, e3⟩
end Go.Proofs.Ytibhjkmbbfgnpaa
