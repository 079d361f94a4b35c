/- The journal's device: cut, where it ends. -/
import Derived.Test.YtdiflmckjpmngaaJvC
namespace Go.Proofs.Ytdiflmckjpmngaa
open Go.RowKit
/-- Where cutting comes to. -/
inductive Skp (Q : Nat → Prop) (W : World) (n : Nat) : Option Addr → Option Addr → Prop
  | nil : Skp Q W n none none
  | stop (g m : Nat) : Q g → W.cell? ⟨g, 1, none⟩ = some (.int .i64 (m : Int)) → m < n → Skp Q W n (some ⟨g, 0, none⟩) (some ⟨g, 0, none⟩)
  | step (g m : Nat) (ah q : Option Addr) : Q g → W.cell? ⟨g, 0, none⟩ = some (.pointer ah) → W.cell? ⟨g, 1, none⟩ = some (.int .i64 (m : Int)) → n ≤ m → Skp Q W n ah q → Skp Q W n (some ⟨g, 0, none⟩) q
theorem Skp.keep {Q : Nat → Prop} {W W' : World} {n : Nat} (hb : ∀ j, Q j → W'.heap[j]? = W.heap[j]?) {p q : Option Addr} (h : Skp Q W n p q) : Skp Q W' n p q := by
  induction h with
  | nil => exact .nil
  | stop g m h1 h2 h3 => exact .stop g m h1 ((World.cell?_of_block (w := W) (a := ⟨g, 1, none⟩) (hb g h1)).trans h2) h3
  | step g m ah q h1 h2 h3 h4 _ ih => exact .step g m ah q h1 ((World.cell?_of_block (w := W) (a := ⟨g, 0, none⟩) (hb g h1)).trans h2) ((World.cell?_of_block (w := W) (a := ⟨g, 1, none⟩) (hb g h1)).trans h3) h4 ih
theorem Skp.ofnil {Q : Nat → Prop} {W : World} {n : Nat} {q : Option Addr} (h : Skp Q W n none q) : q = none := by
  cases h
  rfl
theorem Skp.at {Q : Nat → Prop} {W : World} {n g m : Nat} {ah q : Option Addr} (h : Skp Q W n (some ⟨g, 0, none⟩) q) (c0 : W.cell? ⟨g, 0, none⟩ = some (.pointer ah)) (c1 : W.cell? ⟨g, 1, none⟩ = some (.int .i64 (m : Int))) : (n ≤ m → Skp Q W n ah q) ∧ (m < n → q = some ⟨g, 0, none⟩) := by
  cases h with
  | stop _ m' h1 h2 h3 =>
    have := Option.some.inj (c1.symm.trans h2)
    simp only [Value.int.injEq, true_and] at this
    exact ⟨fun h => by omega, fun _ => rfl⟩
  | step _ m' ah' _ h1 h2 h3 h4 h5 =>
    have := Option.some.inj (c1.symm.trans h3)
    simp only [Value.int.injEq, true_and] at this
    have e := Option.some.inj (c0.symm.trans h2)
    simp only [Value.pointer.injEq] at e
    subst e
    exact ⟨fun _ => h5, fun h => by omega⟩
theorem Ch.skp {Q : Nat → Prop} {W : World} {p : Option Addr} {d : List Nat} (h : Ch Q W p d) {n : Nat} (hn : n ≤ d.length) : ∃ q, Skp Q W n p q ∧ Ch Q W q (d.take n) := by
  induction h with
  | nil => exact ⟨none, .nil, by simp; exact .nil⟩
  | cons g b cap k ah pre D h1 h2 h3 h4 h5 h6 h7 h8 h9 h10 ih =>
    have c0 : W.cell? ⟨g, 0, none⟩ = some (.pointer ah) := by rw [cell_of_row _ _ _ _ _ _ h3]; rfl
    have c1 : W.cell? ⟨g, 1, none⟩ = some (.int .i64 (pre.length : Int)) := by rw [cell_of_row _ _ _ _ _ _ h3]; rfl
    by_cases hm : n ≤ pre.length
    · obtain ⟨q, q1, q2⟩ := ih hm
      refine ⟨q, .step g _ ah q h1 c0 c1 hm q1, ?_⟩
      rwa [List.take_append_of_le_length hm]
    · refine ⟨some ⟨g, 0, none⟩, .stop g _ h1 c1 (by omega), ?_⟩
      rw [List.length_append, List.length_take] at hn
      rw [List.take_append, List.take_take, List.take_of_length_le (by omega)]
      exact .cons g b cap (min (n - pre.length) k) ah pre D h1 h2 h3 h4 h5 h6 h7 (by omega) (by omega) h10
set_option maxRecDepth 100000 in
set_option maxHeartbeats 1600000 in
theorem cut_det (Q : Nat → Prop) (p q0 : Option Addr) (d : List Nat) (s n : Nat) (W : World) (hch : Ch Q W p d) (hsk : Skp Q W n p q0) (hs : s ≤ d.length) (hlim : d.length ≤ LIM) (hn : n ≤ d.length) : Calls Try.prog 29 #[.agg (cnA p d.length s), .int .i64 (n : Int)] W fun e w' => e = .returned (.agg (cnA q0 n (min s n))) ∧ Below W.heap.size W w' := by
  have HC : Hid (Ch Q W p d ∧ d.length ≤ LIM ∧ n ≤ d.length ∧ s ≤ d.length ∧ Skp Q W n p q0) := ⟨hch, hlim, hn, hs, hsk⟩
  clear hch hs hlim hn hsk
  unfold cnA at *
  go_enter Try.func29, Try.ntmps29
  go_wp2_with fail
  go_loopg [] d.length (fun k wr => ∃ q d', Hid (k = d'.length ∧ Ch Q W q d' ∧ n ≤ d'.length ∧ d'.take n = d.take n ∧ Skp Q W n q q0) ∧ wr = (W.alloc (.cells #[.pointer q, .int .i64 (d.length : Int), .int .i64 (s : Int)] 50)).alloc (.cells #[.pointer none, .int .i64 0, .int .i64 0] 50))
  case atStart => exact ⟨p, d, ⟨rfl, HC.out.1, HC.out.2.2.1, rfl, HC.out.2.2.2.2⟩, rfl⟩
  case round =>
    obtain ⟨q, d', HD, rfl⟩ := hrel
    have b2 : Hid (∀ q s', Below W.heap.size W ((W.alloc (.cells #[.pointer q, .int .i64 s', .int .i64 (s : Int)] 50)).alloc (.cells #[.pointer none, .int .i64 0, .int .i64 0] 50))) := fun q s' => below2 W _ _
    rcases HD.out.2.1.cut1 with ⟨rfl, e0⟩ | ⟨g, ah, m, pre, rfl, c0, c1, hg, hm, hpre, hpl, hah, hall⟩
    · have hn0 : n = 0 := by have := HD.out.2.2.1; rw [e0] at this; simpa using this
      subst hn0
      have HE : Hid (d' = []) := e0
      clear e0
      go_wp2_with fail
      all_goals
        refine bodyPost_ret (results_C rfl _ _ (W.heap.size + 1) _ rfl rfl (row2n _ _ _)) rfl ?_
        have hq : q0 = none := HD.out.2.2.2.2.ofnil
        subst hq
        refine ⟨?_, below2 _ _ _⟩
        first
          | (simp; done)
          | (obtain rfl : s = 0 := by omega
             simp)
    · have c0' := below_cell (b2.out (some ⟨g, 0, none⟩) (d.length : Int)) c0
      have c1' := below_cell (b2.out (some ⟨g, 0, none⟩) (d.length : Int)) c1
      have HP : Hid (pre = d'.take m ∧ pre.length = m ∧ Ch Q W ah pre ∧ m < d'.length) := ⟨hpre, hpl, hah, hm⟩
      have HSS : Hid ((n ≤ m → Skp Q W n ah q0) ∧ (m < n → q0 = some ⟨g, 0, none⟩)) := HD.out.2.2.2.2.at c0 c1
      clear c0 c1 hpre hpl hah hm hall
      by_cases hmn : n ≤ m
      · have h1 : (n : Int) ≤ (m : Int) := by omega
        go_wp2_with fail
        go_roundg m
        case measure => have h2 := HD.out.1; have h3 := HP.out.2.2.2; omega
        case rel => exact ⟨ah, pre, ⟨HP.out.2.1.symm, HP.out.2.2.1, by rw [HP.out.2.1]; exact hmn, by rw [HP.out.1, take_min _ _ _ hmn]; exact HD.out.2.2.2.1, HSS.out.1 hmn⟩, rfl⟩
      · have h1 : ¬ (n : Int) ≤ (m : Int) := by omega
        go_wp2_with fail
        all_goals
          refine bodyPost_ret (results_C rfl _ _ (W.heap.size + 1) _ rfl rfl (row2n _ _ _)) rfl ?_
          have hq : q0 = some ⟨g, 0, none⟩ := HSS.out.2 (by omega)
          subst hq
          refine ⟨?_, below2 _ _ _⟩
          first
            | (rw [Nat.min_eq_right (by omega)]; done)
            | (rw [Nat.min_eq_left (by omega)]; done)
end Go.Proofs.Ytdiflmckjpmngaa
