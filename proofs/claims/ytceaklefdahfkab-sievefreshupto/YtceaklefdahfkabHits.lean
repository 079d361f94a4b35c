/- Lists of hits; Overlap, the code's and the document's. -/
import Derived.Test.YtceaklefdahfkabNear
import Derived.Deep.QuietTactic
import Derived.BigQuiet
import Derived.Maps.AppendAt
import Derived.Deep.AppendLies
namespace Go.Proofs.Ytceaklefdahfkab
open Go.RowKit
/-- The walk does not open this. -/
def Hid (p : Prop) : Prop := p
theorem Hid.out {p : Prop} (h : Hid p) : p := h
theorem Below.drewN' {B : Nat} {a w : World} (h : Below B a w) (n : Nat) : Below B a (w.drewN n) := ⟨h.os, h.tape, h.output, h.size, h.block⟩
theorem wi (x : Int) (h : I64 x) : IntKind.i64.wrap x = x := by
  unfold I64 at h
  have hb : IntKind.i64.bits = 64 := rfl
  have hs : IntKind.i64.signed = true := rfl
  unfold IntKind.wrap
  rw [hb, hs]
  by_cases h0 : 0 ≤ x
  · simp only [Bool.true_and, decide_eq_true_eq]; split <;> omega
  · simp only [Bool.true_and, decide_eq_true_eq]; split <;> omega
/-- A slice of hits. -/
def Hl (v : Value) (l : List (Int × Int)) (w : World) : Prop :=
  (v = .slice none 0 0 ∧ l = []) ∨ ∃ b off cap, v = .slice (some ⟨b, off, none⟩) l.length cap ∧ l.length ≤ cap ∧ cap ≤ maxLen ∧ b < w.heap.size ∧
    ∀ j, j < l.length → w.cell? ⟨b, off + j * 2, none⟩ = some (.int .i64 (l.getD j (0, 0)).1) ∧ w.cell? ⟨b, off + j * 2 + 1, none⟩ = some (.int .i64 (l.getD j (0, 0)).2)
def Rg (l : List (Int × Int)) : Prop := ∀ j, I64 (l.getD j (0, 0)).1 ∧ I64 (l.getD j (0, 0)).2
theorem Hl.keep {v : Value} {d : List (Int × Int)} {w w' : World} (h : Hl v d w) (hs : w.heap.size ≤ w'.heap.size) (hb : ∀ j, j < w.heap.size → w'.heap[j]? = w.heap[j]?) : Hl v d w' := by
  rcases h with h | ⟨b, off, cap, h1, h2, h3, h5, h6⟩
  · exact .inl h
  · exact .inr ⟨b, off, cap, h1, h2, h3, by omega, fun j hj => ⟨(World.cell?_of_block (w := w) (hb b h5)).trans (h6 j hj).1, (World.cell?_of_block (w := w) (hb b h5)).trans (h6 j hj).2⟩⟩
theorem Hl.form {v : Value} {d : List (Int × Int)} {w : World} (h : Hl v d w) : ∃ o c, v = .slice o d.length c ∧ d.length ≤ 9223372036854775807 ∧ (0 < d.length → ∃ b off, o = some ⟨b, off, none⟩ ∧ b < w.heap.size ∧
    ∀ j, j < d.length → w.cell? ⟨b, off + j * 2, none⟩ = some (.int .i64 (d.getD j (0, 0)).1) ∧ w.cell? ⟨b, off + j * 2 + 1, none⟩ = some (.int .i64 (d.getD j (0, 0)).2)) := by
  rcases h with ⟨rfl, rfl⟩ | ⟨b, off, cap, rfl, h2, h3, h5, h6⟩
  · exact ⟨none, 0, rfl, by simp, fun h => by simp at h⟩
  · exact ⟨_, cap, rfl, by unfold maxLen at h3; omega, fun _ => ⟨b, off, rfl, h5, h6⟩⟩
/-- The first place from i on that lies too near. -/
def ovR (l : List (Int × Int)) (d : Int) : Nat → Nat → Int
  | 0, _ => -1
  | n + 1, i => if (l.getD i (0, 0)).1 - (l.getD (i - 1) (0, 0)).1 < d then (i : Int) else ovR l d n (i + 1)
def ov (l : List (Int × Int)) (d : Int) : Int := ovR l d (l.length - 1) 1
set_option maxRecDepth 100000 in
theorem overlap_any (l : List (Int × Int)) (hr : Rg l) (d : Int) (hd : I64 d) (v : Value) (w : World) (hv : Hl v l w) :
    Calls Try.prog 12 #[v, .int .i64 d] w fun e w' => e = .returned (.int .i64 (ov l d)) ∧ Below w.heap.size w w' := by
  obtain ⟨o, c, rfl, hl, ho⟩ := hv.form
  clear hv
  go_enter Try.func12, Try.ntmps12
  go_wp2_with fail
  go_loopw [5] (fun i wr => ∃ k : Nat, i = .int .i64 (k : Int) ∧ 1 ≤ k ∧ Hid (ov l d = ovR l d (l.length - k) k) ∧ Below w.heap.size w wr) (fun i _ => l.length - (intOf i).toNat)
  case atStart => exact ⟨1, rfl, Nat.le_refl _, rfl, Below.refl _ _⟩
  case round =>
    obtain ⟨k, rfl, hk, HO, hbl⟩ := hrel
    by_cases hlt : k < l.length
    · obtain ⟨b, off, rfl, hb, hc⟩ := ho (by omega)
      obtain ⟨m, hm⟩ : ∃ m, k = m + 1 := ⟨k - 1, by omega⟩
      have hk1 : (k : Int) < (l.length : Int) := by omega
      have hk0 : (0 : Int) ≤ (k : Int) := by omega
      have hm1 : (m : Int) < (l.length : Int) := by omega
      have hm0 : (0 : Int) ≤ (m : Int) := by omega
      have hw : IntKind.i64.wrap ((k : Int) - 1) = (m : Int) := by rw [wi _ (by unfold I64; omega)]; omega
      have c1 := (World.cell?_of_block (w := w) (hbl.block b hb)).trans (hc k hlt).1
      have c0 := (World.cell?_of_block (w := w) (hbl.block b hb)).trans (hc m (by omega)).1
      have HM : Hid (k = m + 1) := hm
      have NC : Hid (∀ W, Calls Try.prog 48 #[.int .i64 (l.getD m (0, 0)).1, .int .i64 (l.getD k (0, 0)).1, .int .i64 d] W fun e w' => e = .returned (.bool (decide ((l.getD k (0, 0)).1 - (l.getD m (0, 0)).1 < d))) ∧ w' = W) := fun W => nearer_any _ _ d (hr _).1 (hr _).1 hd W
      have ST : Hid (ov l d = if (l.getD k (0, 0)).1 - (l.getD m (0, 0)).1 < d then (k : Int) else ovR l d (l.length - (k + 1)) (k + 1)) := by
        show ov l d = _
        rw [HO.out, show l.length - k = (l.length - (k + 1)) + 1 by omega, ovR, show k - 1 = m by omega]
      revert c0 c1 NC ST
      generalize (l.getD m (0, 0)).1 = x0, (l.getD k (0, 0)).1 = x1
      intro c0 c1 NC ST
      clear hm hc ho HO
      go_wp2_with fail
      go_quiet ((go_at_call 48; exact Calls.quiet_of_same (NC.out _)))
      go_wp2
      · rename_i hx
        go_ret
        exact ⟨by rw [ST.out, if_pos hx]; rfl, Below.drewN' hbl _⟩
      · rename_i hx
        exact ⟨⟨k + 1, by rfl, by omega, by show ov l d = _; rw [ST.out, if_neg (by omega)], Below.drewN' hbl _⟩, by simp only [intOf]; omega⟩
    · have hk1 : ¬ ((k : Int) < (l.length : Int)) := by omega
      have ST2 : Hid (ov l d = -1) := by show ov l d = _; rw [HO.out, show l.length - k = 0 by omega, ovR]
      go_wp2
      go_ret
      exact ⟨by rw [ST2.out]; rfl, hbl⟩
set_option maxRecDepth 100000 in
theorem same_any (l : List (Int × Int)) (v u : Value) (w : World) (hv : Hl v l w) (hu : Hl u l w) :
    Calls Try.prog 15 #[v, u] w fun e w' => e = .returned (.bool true) ∧ Below w.heap.size w w' := by
  obtain ⟨o, c, rfl, hl, ho⟩ := hv.form
  obtain ⟨o2, c2, rfl, _, ho2⟩ := hu.form
  clear hv hu
  go_enter Try.func15, Try.ntmps15
  go_wp2_with fail
  go_loopw [5] (fun i wr => ∃ k : Nat, i = .int .i64 (k : Int) ∧ Below w.heap.size w wr) (fun i _ => l.length - (intOf i).toNat)
  case atStart => exact ⟨0, rfl, Below.refl _ _⟩
  case round =>
    obtain ⟨k, rfl, hbl⟩ := hrel
    by_cases hlt : k < l.length
    · obtain ⟨b, off, rfl, hb, hc⟩ := ho (by omega)
      obtain ⟨b2, off2, rfl, hb2, hc2⟩ := ho2 (by omega)
      have hk1 : (k : Int) < (l.length : Int) := by omega
      have hk0 : (0 : Int) ≤ (k : Int) := by omega
      have c1 := (World.cell?_of_block (w := w) (hbl.block b hb)).trans (hc k hlt).1
      have c2 := (World.cell?_of_block (w := w) (hbl.block b hb)).trans (hc k hlt).2
      have c3 := (World.cell?_of_block (w := w) (hbl.block b2 hb2)).trans (hc2 k hlt).1
      have c4 := (World.cell?_of_block (w := w) (hbl.block b2 hb2)).trans (hc2 k hlt).2
      revert c1 c2 c3 c4
      generalize (l.getD k (0, 0)).1 = x1, (l.getD k (0, 0)).2 = x2
      intro c1 c2 c3 c4
      clear hc ho hc2 ho2
      go_wp2_with fail
      go_quiet (fail)
      go_wp2
      exact ⟨⟨k + 1, by rfl, Below.drewN' hbl _⟩, by simp only [intOf]; omega⟩
    · have hk1 : ¬ ((k : Int) < (l.length : Int)) := by omega
      go_wp2
      go_ret
      exact ⟨rfl, hbl⟩
end Go.Proofs.Ytceaklefdahfkab
