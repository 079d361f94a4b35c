/- Graphs searched: the way back. -/
import Derived.Test.YtibhjkmbbfgnpaaGyB
import Derived.Sort.OwnSortedInts
import Derived.Shelf.Lay
import Derived.Shelf.Slices.Reverse
import Derived.Ground.NamesProg
namespace Go.Proofs.Ytibhjkmbbfgnpaa
open Go.RowKit GM
set_option maxRecDepth 20000
shelf_lay Lays.n112 Nm 112 at Try as Try.revI
theorem ik_mapR (l : List Nat) : (ik l).toList = (l.map fun n : Nat => (n : Int)).map (Value.int .i64) := by simp [ik]
/-- Reverse. -/
theorem rev_any (w : World) {B n : Nat} {v : Value} {l : List Nat} (h : w.ownsRow B 3 1 v n (ik l).toList) (hl : 0 < l.length) (hl2 : l.length < 1000000000) :
    Calls Try.prog 80 #[v] w fun e w' => e = .returned (.tuple #[]) ∧ w'.ownsRow B 3 1 v n (ik l.reverse).toList ∧ Rm.Frm (fun k => v.ownBlock = some k) w w' := by
  obtain ⟨h0, h1⟩ := h
  have hn : n = l.length := by simpa [ik] using h0.symm
  subst hn
  rcases h1 with ⟨rfl, h1⟩ | ⟨g, cap, cur, rfl, hB, hg, hnc, hcm, hcs, htk⟩
  · omega
  · rw [ik_mapR] at htk
    have hH := holds_of_blockI (ss := l.map fun n : Nat => (n : Int)) hg (by rw [List.length_map]; simpa using htk)
    have C := Any.slices_Reverse_int Try.revI g 0 cap (l.map fun n : Nat => (n : Int)) w hH (by rw [List.length_map]; omega)
    rw [List.length_map, ← List.map_reverse] at C
    refine Calls.mono C ?_
    rintro e w' ⟨rfl, m, rfl⟩
    have o := ownsRow_sortedI (w := w) (base := B) (n := m) (os := #[]) (ss := l.map fun n : Nat => (n : Int)) (ts := l.reverse.map fun n : Nat => (n : Int)) (by simp) hB hg (by simpa using hnc) hcm (by simpa using hcs)
    rw [List.length_map, Sort.grow_empty] at o
    have f := grownBy_sortedI (w := w) (g := g) (n := m) (os := #[]) ((l.reverse.map fun n : Nat => (n : Int)).toArray)
    rw [Sort.grow_empty] at f
    refine ⟨rfl, by rw [ik_mapR]; exact o, f.os, f.tape, f.output, f.size, fun k hk hx => f.block k hk (fun e => hx ?_)⟩
    exact e.symm
theorem own_one (w : World) (B x : Nat) (hB : B ≤ w.heap.size) : (w.alloc (.cells #[.int .i64 (x : Int)] 3)).ownsRow B 3 1 (.slice (some ⟨w.heap.size, 0, none⟩) 1 1) 1 (ik [x]).toList := by
  refine ⟨by simp [ik], .inr ⟨w.heap.size, 1, _, rfl, hB, heap_alloc_new _ _, Nat.le_refl _, by unfold maxLen; omega, by simp, by simp [ik]⟩⟩
theorem measBk (d i : Nat) (h : i ≤ d) : d + 1 - (i + 1) < d + 1 - i := by omega
def lnV : Value → Nat
  | .slice _ n _ => n
  | _ => 0
/-- What lies while the path is laid. -/
structure Pb (W : World) (F : Nat → List Nat) (a t d b n : Nat) (f : Nat → Option Nat) (A : List Nat) (m : Nat) (pv : Value) (v : Nat) (w : World) : Prop where
  bel : Below W.heap.size W w
  mem : v ∈ A
  wb : ∃ B, Wb F a t d v B ∧ B.length = m ∧ w.ownsRow W.heap.size 3 1 pv m (ik B).toList
section
variable {W w : World} {F : Nat → List Nat} {a t d b n m v : Nat} {f : Nat → Option Nat} {A : List Nat} {pv : Value}
/-- A step back. -/
theorem Pb.step (h : Pb W F a t d b n f A m pv v w) (hm : Mb W b n f) (hf : ∀ v, v ∈ A → v ≠ a → ∃ p d, f v = some p ∧ p ∈ A ∧ Ds F a d p ∧ Ds F a (d + 1) v ∧ v ∈ F p) (hA : ∀ v, v ∈ A → v < 1000000000) (hva : v ≠ a) (hd : d < 100000000) :
    ∃ (p : Nat) (o' : Option Addr) (c' : Nat) (w' : World), (lkS (.map (some b)) (.int .i64 (v : Int)) false).run Try.prog w = .ok (.int .i64 (p : Int)) w ∧ (apI 28 #[pv, .slice (some ⟨w.heap.size, 0, none⟩) 1 1]).run Try.prog (w.alloc (.cells #[.int .i64 (p : Int)] 3)) = .ok (.slice o' (m + 1) c') w' ∧ (lkS (.map (some b)) (.int .i64 (v : Int)) false).run Try.prog w' = .ok (.int .i64 (p : Int)) w' ∧ Pb W F a t d b n f A (m + 1) (.slice o' (m + 1) c') p w' ∧ m ≤ d := by
  obtain ⟨B, h1, rfl, h2⟩ := h.wb
  obtain ⟨p, e, q1, q2, q3, q4, q5⟩ := hf v h.mem hva
  have hv := hA v h.mem
  have hl := h1.lens
  have hb := hm.lt
  obtain ⟨v', w', r1, r2, r3, r4⟩ := run_apI w W.heap.size B.length 28 pv B p h2 (by omega) h.bel.size
  obtain ⟨o', c', rfl⟩ := own_size r2
  have b2 : Below W.heap.size w w' := by
    have hz : w.heap.size ≤ w'.heap.size := by have := r3.size; simp at this; omega
    refine ⟨r3.os, r3.tape, r3.output, hz, fun k hk => grown_oldR r3 k (by have := h.bel.size; omega) (fun e => ?_)⟩
    have := (h2.lt k e).1
    omega
  have b1 := h.bel.trans b2
  have m1 := hm.keep (h.bel.block b hb)
  have m2 := hm.keep (b1.block b hb)
  exact ⟨p, o', c', w', m1.get v (by omega) q1, r1, m2.get v (by omega) q1, ⟨b1, q2, B ++ [p], h1.step q5 q3 q4, by simp, r2⟩, hl.2.2 hva⟩
end
attribute [local go_sem ↓] toApI toLkS
set_option maxRecDepth 100000 in
set_option maxHeartbeats 3200000 in
theorem back_any (w : World) {F : Nat → List Nat} {a t d b n : Nat} {f : Nat → Option Nat} {A : List Nat} (hm : Mb w b n f) (hf : ∀ v, v ∈ A → v ≠ a → ∃ p d, f v = some p ∧ p ∈ A ∧ Ds F a d p ∧ Ds F a (d + 1) v ∧ v ∈ F p) (hA : ∀ v, v ∈ A → v < 1000000000) (ht : t ∈ A) (hd : Ds F a d t) (hd2 : d < 100000000) :
    Calls Try.prog 59 #[.int .i64 (a : Int), .int .i64 (t : Int), .map (some b)] w fun e w' => ∃ L o c, Pth F a t d L ∧ e = .returned (.slice o (d + 1) c) ∧ w'.ownsRow w.heap.size 3 1 (.slice o (d + 1) c) (d + 1) (ik L).toList ∧ Below w.heap.size w w' := by
  have HQ := mkHid (And.intro hm (And.intro hf (And.intro hA (And.intro hd hd2))))
  have H0 : Hid (Pb w F a t d b n f A 1 (.slice (some ⟨w.heap.size, 0, none⟩) 1 1) t (w.alloc (.cells #[.int .i64 (t : Int)] 3))) :=
    ⟨(Below.refl _ w).alloc (Nat.le_refl _) _, ht, [t], wb_zero hd, rfl, own_one w _ t (Nat.le_refl _)⟩
  clear hm hf hA ht hd hd2
  go_enter Try.func59, Try.ntmps59
  go_wp2_with fail
  go_loopw [7, 8] (fun pv iv wr => ∃ (o : Option Addr) (m c v : Nat), pv = .slice o m c ∧ iv = .int .i64 (v : Int) ∧ Hid (Pb w F a t d b n f A m (.slice o m c) v wr)) (fun pv _ _ => d + 1 - lnV pv)
  case atStart => exact ⟨_, 1, 1, t, rfl, rfl, H0⟩
  case round =>
    obtain ⟨o, m, c, v, rfl, rfl, HI⟩ := hrel
    by_cases hva : v = a
    · have i1 : (v : Int) = (a : Int) := by rw [hva]
      obtain ⟨B, h1, hB, h2⟩ := HI.out.wb
      have hw := h1.lens
      rw [hva] at h1
      have hP := h1.done HQ.out.2.2.2.1
      obtain ⟨e0, l1, l2⟩ := h1.l
      have he0 : e0 = 0 := l1.uniq (ds_zero.2 rfl)
      have hmd : m = d + 1 := by omega
      have C := rev_any wr h2 (by omega) (by have := HQ.out.2.2.2.2; omega)
      have HP := mkHid (And.intro hP (And.intro HI.out.bel hmd))
      clear h1 hw hB h2 l1 l2 he0 hP hmd hva
      go_wp2_with fail
      refine C.mono ?_
      rintro e w2 ⟨rfl, q1, q2⟩
      have HF := mkHid (And.intro q1 q2)
      clear q1 q2 C
      go_wp2_with fail
      go_ret
      obtain ⟨q1, q2⟩ := HF.out
      obtain ⟨p1, p2, rfl⟩ := HP.out
      refine ⟨_, _, _, p1, rfl, q1, p2.trans (q2.below p2.size fun k hk => ?_)⟩
      exact (q1.lt k hk).1
    · have i1 : ¬ (v : Int) = (a : Int) := by omega
      obtain ⟨p, o', c', w', r1, r2, r3, r4, r5⟩ := HI.out.step HQ.out.1 HQ.out.2.1 HQ.out.2.2.1 hva HQ.out.2.2.2.2
      have HR := mkHid (And.intro r4 r5)
      clear r4 r5 hva
      go_wp2_with fail
      exact ⟨⟨o', m + 1, c', p, rfl, rfl, HR.out.1⟩, measBk d m HR.out.2⟩
end Go.Proofs.Ytibhjkmbbfgnpaa
