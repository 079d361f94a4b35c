/- Package card: firstLine, takeSign. -/
import Derived.Test.YtgimkeklnpppjaaDoorCdL
import Derived.BigRegion
import Derived.BigQuiet
namespace Go.Proofs.YtgimkeklnpppjaaDoor
open Go.RowKit Go.Shelf
/-- What firstLine answers. -/
def flV (S : Sen) (l : List UInt8) (f : Nat) : Value :=
  if (pre 10 l).length < l.length then (if pf (ofL (pre 10 l)) (hdS f) then .tuple #[.int .i64 (f : Int), .string ((ofL (pre 10 l)).extract (hdS f).size (ofL (pre 10 l)).size), .nilIface] else .tuple #[.int .i64 0, .string ⟨#[]⟩, flt S.li 0 0])
  else .tuple #[.int .i64 0, .string ⟨#[]⟩, flt S.sh 0 ((l.length : Nat) : Int)]
attribute [local go_sem ↓] toBdF
set_option maxRecDepth 100000 in
set_option maxHeartbeats 3200000 in
theorem firstLine_any (s : ByteArray) (hs : s.size ≤ 131072) (f : Nat) (h1 : 12 ≤ f) (h2 : f ≤ 14) (S : Sen) (w : World) (hw : Wd S w) :
    Calls Tryd.prog 17 #[.string s, .int .i64 (f : Int), .int .i64 (f : Int)] w fun e w' => e = .returned (flV S s.data.toList f) ∧ Below w.heap.size w w' := by
  have CC := cut_any s (by omega) w
  have hl : s.data.toList.length = s.size := Array.length_toList
  have HW : Hid (Wd S w) := hw
  by_cases hn : (pre 10 s.data.toList).length < s.data.toList.length
  · obtain ⟨L, hL⟩ : ∃ L, L = ofL (pre 10 s.data.toList) := ⟨_, rfl⟩
    obtain ⟨R, hR⟩ : ∃ R, R = ofL (s.data.toList.drop ((pre 10 s.data.toList).length + 1)) := ⟨_, rfl⟩
    rw [cutV, if_pos hn, ← hL, ← hR] at CC
    have HC : Hid _ := CC
    obtain ⟨H, hH⟩ : ∃ H, H = hdS f := ⟨_, rfl⟩
    have HCP : Hid (∀ W, Calls Tryd.prog 24 #[.string L, .string H] W fun e w' => e = .returned (.tuple #[.string (if pf L H then L.extract H.size L.size else L), .bool (pf L H)]) ∧ w' = W) := fun W => cutp_any L H W
    have hV : Hid (flV S s.data.toList f = if pf L H then .tuple #[.int .i64 (f : Int), .string (L.extract H.size L.size), .nilIface] else .tuple #[.int .i64 0, .string ⟨#[]⟩, flt S.li 0 0]) := by
      show _ = _
      rw [flV, if_pos hn, ← hL, ← hH]
    have HF : Hid (12 ≤ f ∧ f ≤ 14 ∧ H = hdS f) := ⟨h1, h2, hH⟩
    have i1 : (0 : Int) ≤ (f : Int) := by omega
    have i2 : (f : Int) < 15 := by omega
    have w1 : IntKind.i64.wrap ((f : Int) + 1) = (f : Int) + 1 := by rw [IntKind.wrap_i64]; omega
    have i3 : ¬ ((f : Int) + 1 ≤ (f : Int)) := by omega
    have bF := fun W => bd_F1 W 135 (some S.li)
    clear CC hL hR hH hw hs hl hn h1 h2
    go_enter Tryd.func17, Tryd.ntmps17
    go_wp2_with fail
    refine Calls.mono HC.out ?_
    rintro e W1 ⟨rfl, b1⟩
    have hw1 := HW.out.below b1
    have HB : Hid (Below w.heap.size w W1) := b1
    have hc : W1.cell? ⟨5, f, none⟩ = some (.string H) := by rw [HF.out.2.2]; exact hw1.hd f HF.out.1 HF.out.2.1
    have hli : W1.cell? ⟨3, 0, none⟩ = some (.iface 135 (.pointer (some S.li))) := hw1.li
    clear HC b1 hw1
    cases hp : pf L H with
    | true =>
      have CP : Hid _ := HCP.out W1
      rw [hp] at CP hV
      simp only [if_true] at CP hV
      clear HCP
      go_wp2_with fail
      refine wp_loop_rounds 1 ?_
      rw [rounds_succ]
      go_wp2_with fail
      refine Calls.mono CP.out ?_
      rintro e W2 ⟨rfl, hw'⟩
      have hw2 := hw'.symm
      subst hw2
      go_wp2
      go_ret3
      exact ⟨by rw [hV.out]; rfl, HB.out⟩
    | false =>
      have CP : Hid _ := HCP.out W1
      rw [hp] at CP hV
      simp only [Bool.false_eq_true, if_false] at CP hV
      have hliq : ∀ k, (W1.drewN k).cell? ⟨3, 0, none⟩ = some (.iface 135 (.pointer (some S.li))) := fun k => hli
      clear HCP
      go_wp2_with fail
      refine wp_loop_rounds 2 ?_
      rw [rounds_succ]
      go_wp2_with fail
      refine Calls.mono CP.out ?_
      rintro e W2 ⟨rfl, hw'⟩
      have hw2 := hw'.symm
      subst hw2
      go_wp2_with fail
      rw [rounds_succ]
      go_wp2_with fail
      go_quiet (fail)
      go_wp2
      go_ret3
      exact ⟨by rw [hV.out]; rfl, Below.drewN' HB.out _⟩
  · obtain ⟨L, hL⟩ : ∃ L, L = ofL s.data.toList := ⟨_, rfl⟩
    rw [cutV, if_neg hn] at CC
    have HC : Hid _ := CC
    have hV : Hid (flV S s.data.toList f = .tuple #[.int .i64 0, .string ⟨#[]⟩, flt S.sh 0 ((s.size : Nat) : Int)]) := by
      show _ = _
      rw [flV, if_neg hn, hl]
    have bF := fun W => bd_F2 W 135 (some S.sh) (s.size : Int)
    clear CC hL hw hs hl hn h1 h2
    go_enter Tryd.func17, Tryd.ntmps17
    go_wp2_with fail
    refine Calls.mono HC.out ?_
    rintro e W1 ⟨rfl, b1⟩
    have hw1 := HW.out.below b1
    have HB : Hid (Below w.heap.size w W1) := b1
    have hsh : W1.cell? ⟨2, 0, none⟩ = some (.iface 135 (.pointer (some S.sh))) := hw1.sh
    have hshq : ∀ k, (W1.drewN k).cell? ⟨2, 0, none⟩ = some (.iface 135 (.pointer (some S.sh))) := fun k => hsh
    clear HC b1 hw1
    go_wp2_with fail
    go_quiet (fail)
    go_wp2
    go_ret3
    exact ⟨by rw [hV.out]; rfl, Below.drewN' HB.out _⟩
end Go.Proofs.YtgimkeklnpppjaaDoor
