/- JournalReplays: the law. -/
import Derived.Test.YtlhpkpedooklnaaDoorJsO
namespace Go.Proofs.YtlhpkpedooklnaaDoor
open Go.RowKit
open JM
def ansN (X : Ans) : Int × Int × Int × Int × Nat × Nat × Nat := match X with
  | .err c f p => (0, 0, 0, 0, c, f, p)
  | .none => (-1, 0, 0, 0, 0, 0, 0)
  | .story f s => ((f : Int), (s.good : Int), (s.gen : Int), (s.first : Int), 0, 0, 0)
def ansB (X : Ans) : List (List Nat) := match X with
  | .story _ s => s.base
  | _ => []
def ansT (X : Ans) : List (List (List Nat)) := match X with
  | .story _ s => s.batches
  | _ => []
/-- An answer, in one form. -/
theorem AnsP.form {W : World} {X : Ans} {e : Ending} {w : World} (h : AnsP W X e w) : Below W.heap.size W w ∧ ∃ t4 t5 : Value, e = .returned (.tuple #[.agg #[.int .i64 (ansN X).1, .int .i64 (ansN X).2.1, .int .i64 (ansN X).2.2.1, .int .i64 (ansN X).2.2.2.1, t4, t5], .int .i64 ((ansN X).2.2.2.2.1 : Int), .int .i64 ((ansN X).2.2.2.2.2.1 : Int), .int .i64 ((ansN X).2.2.2.2.2.2 : Int)]) ∧ Ll W.heap.size w t4 (ansB X) ∧ Lb W.heap.size w t5 (ansT X) := by
  obtain ⟨hb, t0, t1, t2, t3, t4, t5, c, f, p, rfl, hm⟩ := h
  refine ⟨hb, t4, t5, ?_⟩
  cases X with
  | err c' f' p' =>
    obtain ⟨h1, rfl, rfl, rfl⟩ := hm
    simp only [zS, Array.mk.injEq, List.cons.injEq, and_true] at h1
    obtain ⟨rfl, rfl, rfl, rfl, rfl, rfl⟩ := h1
    exact ⟨rfl, Ll.nil _ _, Lb.nil _ _⟩
  | none =>
    obtain ⟨h1, rfl, rfl, rfl⟩ := hm
    simp only [Array.mk.injEq, List.cons.injEq, and_true] at h1
    obtain ⟨rfl, rfl, rfl, rfl, rfl, rfl⟩ := h1
    exact ⟨rfl, Ll.nil _ _, Lb.nil _ _⟩
  | story i s =>
    obtain ⟨⟨rfl, rfl, rfl, rfl, h5, h6⟩, rfl, rfl, rfl⟩ := hm
    exact ⟨rfl, h5, h6⟩
theorem bd_run (l : List Nat) : ∀ (n : Nat) (s : St) (pos : Nat), Bd s pos → pos ≤ l.length → (∀ x ∈ s.batches, x.length ≤ l.length) → Bd (run crcN l n s pos).1 l.length ∧ ∀ x ∈ (run crcN l n s pos).1.batches, x.length ≤ l.length
  | 0, s, pos, h, hp, hx => ⟨⟨Nat.le_trans h.b hp, Nat.le_trans h.t hp, Nat.le_trans h.p hp, h.f, h.ok⟩, hx⟩
  | n + 1, s, pos, h, hp, hx => by
    have hd : Bd s l.length ∧ ∀ x ∈ s.batches, x.length ≤ l.length := ⟨⟨Nat.le_trans h.b hp, Nat.le_trans h.t hp, Nat.le_trans h.p hp, h.f, h.ok⟩, hx⟩
    simp only [run]
    split
    · exact hd
    · split
      · exact hd
      · exact hd
      · rename_i s' pos' hs
        refine bd_run l n s' pos' (bd_step hs h) (step_next hs).2 ?_
        have hpl : s.pending.length ≤ l.length := Nat.le_trans h.p hp
        clear hd
        unfold St.step at hs
        split at hs
        · cases hs
        · cases hs
        · rename_i r hr
          split at hs
          · cases hs
          · rename_i s2 ht
            injection hs with hs
            injection hs with h1 h2
            subst h1
            unfold St.take at ht
            split at ht
            · split at ht
              · injection ht with ht; subst ht; exact hx
              · cases ht
            · split at ht
              · split at ht
                · injection ht with ht; subst ht; exact hx
                · injection ht with ht; subst ht; exact hx
              · split at ht
                · injection ht with ht; subst ht; exact hx
                · split at ht
                  · injection ht with ht
                    subst ht
                    intro x hxm
                    rcases List.mem_append.1 hxm with q | q
                    · exact hx x q
                    · rw [List.mem_singleton.1 q]; exact hpl
                  · cases ht
theorem bd_file (l : List Nat) : Bd (file crcN l).1 l.length ∧ ∀ x ∈ (file crcN l).1.batches, x.length ≤ l.length := bd_run l _ _ _ ⟨by simp [St.new], by simp [St.new], by simp [St.new], by simp [St.new], fun _ => ⟨rfl, rfl⟩, fun _ => rfl⟩ (Nat.zero_le _) (fun x h => by cases h)
/-- The lists of an answer are short. -/
theorem rep_short (l0 l1 : List Nat) : (ansB (rep l0 l1)).length ≤ 1000000000 ∧ (ansT (rep l0 l1)).length ≤ 1000000000 ∧ ∀ x ∈ ansT (rep l0 l1), x.length ≤ 1000000000 := by
  have h0 := bd_file l0
  have h1 := bd_file l1
  unfold rep
  split
  · exact ⟨by simp [ansB], by simp [ansT], fun x h => by cases h⟩
  · rename_i hl0
    split
    · exact ⟨by simp [ansB], by simp [ansT], fun x h => by cases h⟩
    · split
      · exact ⟨by simp [ansB], by simp [ansT], fun x h => by cases h⟩
      · rename_i hl1
        split
        · exact ⟨by simp [ansB], by simp [ansT], fun x h => by cases h⟩
        · unfold pick
          split
          · exact ⟨by simp [ansB], by simp [ansT], fun x h => by cases h⟩
          · split
            · exact ⟨Nat.le_trans h1.1.b (by omega), Nat.le_trans h1.1.t (by omega), fun x hx => Nat.le_trans (h1.2 x hx) (by omega)⟩
            · split
              · exact ⟨Nat.le_trans h0.1.b (by omega), Nat.le_trans h0.1.t (by omega), fun x hx => Nat.le_trans (h0.2 x hx) (by omega)⟩
              · exact ⟨by simp [ansB], by simp [ansT], fun x h => by cases h⟩
attribute [local go_sem ↓] toLdSt in
set_option maxRecDepth 100000 in
set_option maxHeartbeats 3200000 in
theorem replays_any (W : World) {oa ob : Option Addr} {ca cb : Nat} {l0 l1 : List Nat} (h0 : Bl W (.slice oa l0.length ca) l0) (h1 : Bl W (.slice ob l1.length cb) l1) (hl0 : l0.length ≤ LIM) (hl1 : l1.length ≤ LIM) (hT : Tc W) :
    Calls Tryd.prog 3 #[.agg #[.slice oa l0.length ca, .slice ob l1.length cb]] W fun e w' => e = .returned (.bool true) ∧ Below W.heap.size W w' := by
  obtain ⟨V, hV⟩ : ∃ V, W.alloc (.cells #[.slice oa l0.length ca, .slice ob l1.length cb] 25) = V := ⟨_, rfl⟩
  have vb : Below W.heap.size W V := by rw [← hV]; exact (Below.refl _ W).alloc (Nat.le_refl _) _
  have vr : V.heap[W.heap.size]? = some (.cells #[.slice oa l0.length ca, .slice ob l1.length cb] 25 (0, 0)) := by rw [← hV]; exact heap_alloc_new _ _
  have c0 : V.cell? ⟨W.heap.size, 0, none⟩ = some (.slice oa l0.length ca) := (cell_of_row _ _ _ _ _ _ vr).trans rfl
  have c1 : V.cell? ⟨W.heap.size, 1, none⟩ = some (.slice ob l1.length cb) := (cell_of_row _ _ _ _ _ _ vr).trans rfl
  have CD := diskOf_any V (h0.below vb) (h1.below vb) hl0 hl1
  have HF := mkHid (And.intro h0 (And.intro h1 (And.intro hT (And.intro vb vr))))
  clear h0 h1 hT vr
  go_enter Tryd.func3, Tryd.ntmps3
  go_wp2_with fail
  refine CD.mono ?_
  rintro e w1 ⟨o2, o3, c2, c3, rfl, d0, d1, hb1⟩
  clear CD hV c0 c1
  dsimp only
  have B1 : Below W.heap.size W w1 := vb.trans (hb1.mono vb.size)
  obtain ⟨V1, hV1⟩ : ∃ V1, w1.alloc (.cells #[.slice o2 l0.length c2, .slice o3 l1.length c3] 25) = V1 := ⟨_, rfl⟩
  have v1b : Below w1.heap.size w1 V1 := by rw [← hV1]; exact (Below.refl _ w1).alloc (Nat.le_refl _) _
  have v1r : V1.heap[w1.heap.size]? = some (.cells #[.slice o2 l0.length c2, .slice o3 l1.length c3] 25 (0, 0)) := by rw [← hV1]; exact heap_alloc_new _ _
  have BV1 : Below W.heap.size W V1 := B1.trans (v1b.mono B1.size)
  have k0 : V1.cell? ⟨w1.heap.size, 0, none⟩ = some (.slice o2 l0.length c2) := (cell_of_row _ _ _ _ _ _ v1r).trans rfl
  have k1 : V1.cell? ⟨w1.heap.size, 1, none⟩ = some (.slice o3 l1.length c3) := (cell_of_row _ _ _ _ _ _ v1r).trans rfl
  have CR := replay_any V1 (d0.below v1b) (d1.below v1b) (HF.out.2.2.1.below BV1 HF.out.2.2.1.sz)
  replace d0 := mkHid (d0.below v1b)
  replace d1 := mkHid (d1.below v1b)
  have hz1 : W.heap.size < w1.heap.size := by have := (Array.getElem?_eq_some_iff.1 HF.out.2.2.2.2).1; have := hb1.size; omega
  have hz2 : w1.heap.size < V1.heap.size := (Array.getElem?_eq_some_iff.1 v1r).1
  have rS : V1.heap[W.heap.size]? = some (.cells #[.slice oa l0.length ca, .slice ob l1.length cb] 25 (0, 0)) := (v1b.block _ hz1).trans ((hb1.block _ (Array.getElem?_eq_some_iff.1 HF.out.2.2.2.2).1).trans HF.out.2.2.2.2)
  clear hb1
  go_wp2_with fail
  refine CR.mono ?_
  intro e w2 hans
  clear CR
  obtain ⟨hb2, t4, t5, rfl, hL, hM⟩ := hans.form
  obtain ⟨X, hX⟩ : ∃ X, rep l0 l1 = X := ⟨_, rfl⟩
  have hsh := rep_short l0 l1
  rw [hX] at hL hM hsh
  clear hans
  rw [hX]
  obtain ⟨n0, hn0⟩ : ∃ n, (ansN X).1 = n := ⟨_, rfl⟩
  obtain ⟨n1, hn1⟩ : ∃ n, (ansN X).2.1 = n := ⟨_, rfl⟩
  obtain ⟨n2, hn2⟩ : ∃ n, (ansN X).2.2.1 = n := ⟨_, rfl⟩
  obtain ⟨n3, hn3⟩ : ∃ n, (ansN X).2.2.2.1 = n := ⟨_, rfl⟩
  obtain ⟨ec, hec⟩ : ∃ n, (ansN X).2.2.2.2.1 = n := ⟨_, rfl⟩
  obtain ⟨ef, hef⟩ : ∃ n, (ansN X).2.2.2.2.2.1 = n := ⟨_, rfl⟩
  obtain ⟨ep, hep⟩ : ∃ n, (ansN X).2.2.2.2.2.2 = n := ⟨_, rfl⟩
  rw [hn0, hn1, hn2, hn3, hec, hef, hep]
  have HN := mkHid (And.intro hX (And.intro hn0 (And.intro hn1 (And.intro hn2 (And.intro hn3 (And.intro hec (And.intro hef hep)))))))
  clear hX hn0 hn1 hn2 hn3 hec hef hep
  dsimp only
  obtain ⟨x4, y4, rfl⟩ := hL.sl
  obtain ⟨x5, y5, rfl⟩ := hM.sl
  obtain ⟨m4, hm4⟩ : ∃ m, (ansB X).length = m := ⟨_, rfl⟩
  obtain ⟨m5, hm5⟩ : ∃ m, (ansT X).length = m := ⟨_, rfl⟩
  rw [hm4] at hL ⊢
  rw [hm5] at hM ⊢
  obtain ⟨V2, hV2⟩ : ∃ V2, w2.alloc (.cells #[.int .i64 n0, .int .i64 n1, .int .i64 n2, .int .i64 n3, .slice x4 m4 y4, .slice x5 m5 y5] 30) = V2 := ⟨_, rfl⟩
  have v2b : Below w2.heap.size w2 V2 := by rw [← hV2]; exact (Below.refl _ w2).alloc (Nat.le_refl _) _
  have v2r : V2.heap[w2.heap.size]? = some (.cells #[.int .i64 n0, .int .i64 n1, .int .i64 n2, .int .i64 n3, .slice x4 m4 y4, .slice x5 m5 y5] 30 (0, 0)) := by rw [← hV2]; exact heap_alloc_new _ _
  have b12 : Below V1.heap.size V1 V2 := hb2.trans (v2b.mono hb2.size)
  have BV2 : Below W.heap.size W V2 := BV1.trans (b12.mono BV1.size)
  have r2S := (b12.block W.heap.size (by omega)).trans rS
  have r2D := (b12.block w1.heap.size (by omega)).trans v1r
  have a0 : V2.cell? ⟨W.heap.size, 0, none⟩ = some (.slice oa l0.length ca) := (cell_of_row _ _ _ _ _ _ r2S).trans rfl
  have a1 : V2.cell? ⟨W.heap.size, 1, none⟩ = some (.slice ob l1.length cb) := (cell_of_row _ _ _ _ _ _ r2S).trans rfl
  have CR2 := replayR_any V2 (HF.out.1.below BV2) (HF.out.2.1.below BV2)
  have hL2 := hL.keep (stay_below v2b)
  have hM2 := hM.keep (stay_below v2b)
  have hz3 : w2.heap.size < V2.heap.size := (Array.getElem?_eq_some_iff.1 v2r).1
  have hz4 : V1.heap.size ≤ V2.heap.size := b12.size
  replace hL2 := mkHid hL2
  replace hM2 := mkHid hM2
  replace hsh := mkHid hsh
  clear hL hM hb2 v2b k0 k1 hV1
  go_wp2_with fail
  refine CR2.mono ?_
  intro e w3 hans
  clear CR2 hV2 a0 a1
  obtain ⟨hb3, s4, s5, rfl, hL3, hM3⟩ := hans.form
  clear hans
  obtain ⟨hX, hn0, hn1, hn2, hn3, hec, hef, hep⟩ := HN.out
  rw [hX] at hL3 hM3 ⊢
  rw [hn0, hn1, hn2, hn3, hec, hef, hep]
  clear hX hn0 hn1 hn2 hn3 hec hef hep
  dsimp only
  obtain ⟨z4, j4, rfl⟩ := hL3.sl
  obtain ⟨z5, j5, rfl⟩ := hM3.sl
  rw [hm4] at hL3 ⊢
  rw [hm5] at hM3 ⊢
  obtain ⟨V3, hV3⟩ : ∃ V3, w3.alloc (.cells #[.int .i64 n0, .int .i64 n1, .int .i64 n2, .int .i64 n3, .slice z4 m4 j4, .slice z5 m5 j5] 30) = V3 := ⟨_, rfl⟩
  have v3b : Below w3.heap.size w3 V3 := by rw [← hV3]; exact (Below.refl _ w3).alloc (Nat.le_refl _) _
  have v3r : V3.heap[w3.heap.size]? = some (.cells #[.int .i64 n0, .int .i64 n1, .int .i64 n2, .int .i64 n3, .slice z4 m4 j4, .slice z5 m5 j5] 30 (0, 0)) := by rw [← hV3]; exact heap_alloc_new _ _
  have b23 : Below V2.heap.size V2 V3 := hb3.trans (v3b.mono hb3.size)
  have BV3 : Below W.heap.size W V3 := BV2.trans (b23.mono BV2.size)
  have r3a := (b23.block w2.heap.size (by omega)).trans v2r
  have r3S := (b23.block W.heap.size (by omega)).trans r2S
  have r3D := (b23.block w1.heap.size (by omega)).trans r2D
  have L1 := ld_St V3 w2.heap.size 0 _ rfl (range_row r3a)
  have L2 := ld_St V3 w3.heap.size 0 _ rfl (range_row v3r)
  have CSt := sameStory_eq V3 (n0 := n0) (n1 := n1) (n2 := n2) (n3 := n3) (hL2.out.keep (stay_below b23)) (hM2.out.keep (stay_below b23)) (hL3.keep (stay_below v3b)) (hM3.keep (stay_below v3b)) hsh.out.1 hsh.out.2.1 hsh.out.2.2
  replace r3S := mkHid r3S
  replace r3D := mkHid r3D
  have HB := mkHid (And.intro BV3 (And.intro (b12.trans (b23.mono b12.size)) BV1))
  have hz5 : W.heap.size < V3.heap.size := (Array.getElem?_eq_some_iff.1 r3S.out).1
  have hz6 : w1.heap.size < V3.heap.size := (Array.getElem?_eq_some_iff.1 r3D.out).1
  clear hL2 hM2 hL3 hM3 hb3 v3b r3a v3r b23 b12 BV3 BV2 BV1 rS v1r r2S r2D v2r v1b hsh
  go_wp2_with fail
  refine CSt.mono ?_
  rintro e w4 ⟨rfl, hb4⟩
  clear CSt hV3 L1 L2
  dsimp only
  have r4S := (hb4.block W.heap.size hz5).trans r3S.out
  have r4D := (hb4.block w1.heap.size hz6).trans r3D.out
  have a0 : w4.cell? ⟨W.heap.size, 0, none⟩ = some (.slice oa l0.length ca) := (cell_of_row _ _ _ _ _ _ r4S).trans rfl
  have a1 : w4.cell? ⟨W.heap.size, 1, none⟩ = some (.slice ob l1.length cb) := (cell_of_row _ _ _ _ _ _ r4S).trans rfl
  have e0 : w4.cell? ⟨w1.heap.size, 0, none⟩ = some (.slice o2 l0.length c2) := (cell_of_row _ _ _ _ _ _ r4D).trans rfl
  have e1 : w4.cell? ⟨w1.heap.size, 1, none⟩ = some (.slice o3 l1.length c3) := (cell_of_row _ _ _ _ _ _ r4D).trans rfl
  have B4 : Below W.heap.size W w4 := HB.out.1.trans (hb4.mono HB.out.1.size)
  have B14 : Below V1.heap.size V1 w4 := HB.out.2.1.trans (hb4.mono HB.out.2.1.size)
  have CD := same_eq (d0.out.below B14) (d1.out.below B14) (HF.out.1.below B4) (HF.out.2.1.below B4)
  replace B4 := mkHid B4
  clear B14 hb4 r4S r4D
  go_wp2_with fail
  refine CD.mono ?_
  rintro e w5 ⟨rfl, hb5⟩
  clear CD
  dsimp only
  go_wp2_with fail
  go_ret
  exact ⟨rfl, B4.out.trans (hb5.mono B4.out.size)⟩
end Go.Proofs.YtlhpkpedooklnaaDoor
