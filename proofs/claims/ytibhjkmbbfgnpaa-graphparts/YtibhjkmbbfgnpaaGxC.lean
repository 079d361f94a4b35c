/- Graphs searched: slices.Sort of numbers, what a node needs, sameInts. -/
import Derived.Test.YtibhjkmbbfgnpaaGxB
import Derived.Shelf.Sort.Plain
import Derived.Sort.OwnSortedInts
import Derived.Shelf.Lay
import Derived.Ground.NamesProg
namespace Go.Proofs.Ytibhjkmbbfgnpaa
open Go.RowKit GM
set_option maxRecDepth 20000
shelf_lay Lays.n189 Nm 189 at Try as Try.sortI
theorem ik_map (l : List Nat) : (ik l).toList = (l.map fun n : Nat => (n : Int)).map (Value.int .i64) := by simp [ik]
theorem srt_map (l : List Nat) : (l.map fun n : Nat => (n : Int)).mergeSort (fun x y => decide (x ≤ y)) = (srt l).map fun n : Nat => (n : Int) := by
  unfold srt
  rw [List.map_mergeSort (r := fun a b : Nat => decide (a ≤ b)) (s := fun x y : Int => decide (x ≤ y))]
  intro a _ b _
  simp
/-- Sort. -/
theorem sort_any (w : World) {B n : Nat} {v : Value} {l : List Nat} (h : w.ownsRow B 3 1 v n (ik l).toList) (hl : 0 < l.length) (hl2 : l.length < 1000000000) :
    Calls Try.prog 27 #[v] w fun e w' => e = .returned (.tuple #[]) ∧ w'.ownsRow B 3 1 v n (ik (srt l)).toList ∧ Rm.Frm (fun k => v.ownBlock = some k) w w' := by
  obtain ⟨h0, h1⟩ := h
  have hn : n = l.length := by simpa [ik] using h0.symm
  subst hn
  rcases h1 with ⟨rfl, h1⟩ | ⟨g, cap, cur, rfl, hB, hg, hnc, hcm, hcs, htk⟩
  · omega
  · rw [ik_map] at htk
    have hH := holds_of_blockI (ss := l.map fun n : Nat => (n : Int)) hg (by rw [List.length_map]; simpa using htk)
    have C := Any.slices_Sort_int Try.sortI g 0 cap (l.map fun n : Nat => (n : Int)) w hH (Array.getElem?_eq_some_iff.1 hg).1 (by rw [List.length_map]; omega)
    rw [List.length_map, srt_map] at C
    refine Calls.mono C ?_
    rintro e w' ⟨rfl, m, os, rfl⟩
    have o := ownsRow_sortedI (w := w) (base := B) (n := m) (os := os) (ss := l.map fun n : Nat => (n : Int)) (ts := (srt l).map fun n : Nat => (n : Int)) (by simp [srt_len]) hB hg (by simpa using hnc) hcm (by simpa using hcs)
    rw [List.length_map] at o
    have f := grownBy_sortedI (w := w) (g := g) (n := m) (os := os) (((srt l).map fun n : Nat => (n : Int)).toArray)
    refine ⟨rfl, by rw [ik_map]; exact o, f.os, f.tape, f.output, f.size, fun k hk hx => f.block k hk (fun e => hx ?_)⟩
    exact e.symm
set_option maxRecDepth 100000 in
/-- What a node needs. -/
theorem of_cell (w : World) {g N v n c : Nat} {o : Option Addr} (h : w.cell? ⟨g, v, none⟩ = some (.slice o n c)) (hv : v < N) :
    Calls Try.prog 34 #[.slice (some ⟨g, 0, none⟩) N N, .int .i64 (v : Int)] w fun e w' => e = .returned (.slice o n c) ∧ w' = w := by
  have i1 := ltI hv
  have i0 := geI v
  have c1 : w.cell? ⟨g, 0 + v, none⟩ = some (.slice o n c) := by rw [Nat.zero_add]; exact h
  go_enter Try.func34, Try.ntmps34
  go_wp2_with fail
  go_ret
  exact ⟨rfl, rfl⟩
set_option maxRecDepth 100000 in
set_option maxHeartbeats 1600000 in
/-- The law's sameInts, of equal lists. -/
theorem same_ints (w : World) {ga gb : Nat} {a b : Value} {l : List Nat} (ha : Il ga a l w) (hb : Il gb b l w) (hl : l.length < 1000000000) :
    Calls Try.prog 25 #[a, b] w fun e w' => e = .returned (.bool true) ∧ ∃ m, w' = w.drewN m := by
  obtain ⟨oa, ca, rfl, h1⟩ := ha
  obtain ⟨ob, cb, rfl, h2⟩ := hb
  obtain ⟨m, hm⟩ : ∃ m, l.length = m := ⟨_, rfl⟩
  rw [hm] at h1 h2 hl ⊢
  have H1 := mkHid h1
  have H2 := mkHid h2
  have HL := mkHid hl
  clear h1 h2 hl hm
  go_enter Try.func25, Try.ntmps25
  go_wp2_with fail
  go_loopw [5] (fun iv wr => ∃ i : Nat, iv = .int .i64 (i : Int) ∧ i ≤ m ∧ Hid (∃ q, wr = w.drewN q)) (fun iv _ => m - (intOf iv).toNat)
  case atStart => exact ⟨0, rfl, Nat.zero_le _, 0, rfl⟩
  case round =>
    obtain ⟨i, rfl, hi, HI⟩ := hrel
    by_cases hlt : i < m
    · have i1 := ltI hlt
      have i0 := geI i
      have hw1 := wrapI i (Nat.lt_trans hlt HL.out)
      obtain ⟨offa, rfl, -, ca1⟩ := H1.out (Nat.lt_of_le_of_lt (Nat.zero_le _) hlt)
      obtain ⟨offb, rfl, -, cb1⟩ := H2.out (Nat.lt_of_le_of_lt (Nat.zero_le _) hlt)
      obtain ⟨q, hq⟩ := HI.out
      have d1 : ∀ k, (wr.drewN k).cell? ⟨ga, offa + i, none⟩ = some (.int .i64 ((l.getD i 0 : Nat) : Int)) := fun k => by rw [hq]; exact ca1 i hlt
      have d2 : ∀ k, (wr.drewN k).cell? ⟨gb, offb + i, none⟩ = some (.int .i64 ((l.getD i 0 : Nat) : Int)) := fun k => by rw [hq]; exact cb1 i hlt
      obtain ⟨x, hx⟩ : ∃ x, l.getD i 0 = x := ⟨_, rfl⟩
      rw [hx] at d1 d2
      have HQ := mkHid hq
      clear ca1 cb1 hx hq
      go_wp2_with fail
      go_quiet (fail)
      go_wp2_with fail
      exact ⟨⟨i + 1, by simp [hw1], hlt, by rw [HQ.out, World.drewN_drewN]; exact ⟨_, rfl⟩⟩, by rw [hw1]; exact measI _ _ hlt⟩
    · have i1 := nltI hlt
      go_wp2_with fail
      go_ret
      exact ⟨rfl, HI.out⟩
end Go.Proofs.Ytibhjkmbbfgnpaa
