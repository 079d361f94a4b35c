/- JournalReplays: the head. -/
import Derived.Test.YtlhpkpedooklnaaDoorJrR
namespace Go.Proofs.YtlhpkpedooklnaaDoor
open Go.RowKit
open JM
theorem okHead : hasR [⟨1, 1, 4611686018427387904, 8, 8⟩] = St.new.ok := by
  funext k n l
  simp only [hasR, List.any_cons, List.any_nil, Bool.or_false, Ru.ok, St.ok, St.new, if_true]
  rw [Bool.eq_iff_iff]
  simp only [Bool.and_eq_true, decide_eq_true_eq]
  omega
theorem okBase (s : St) (h1 : s.headed = true) (h2 : s.live = false) : hasR [⟨2, s.base.length, min s.base.length 8191, 0, 2097152⟩, ⟨3, s.base.length, s.base.length, 0, 0⟩] = s.ok := by
  funext k n l
  simp only [hasR, List.any_cons, List.any_nil, Bool.or_false, Ru.ok, St.ok, h1, h2, Bool.true_eq_false, if_false, if_true]
  rw [Bool.eq_iff_iff]
  simp only [Bool.and_eq_true, Bool.or_eq_true, decide_eq_true_eq]
  omega
theorem okBatch (s : St) (h1 : s.headed = true) (h2 : s.live = true) : hasR [⟨4, s.pending.length, min s.pending.length 8191, 0, 2097152⟩, ⟨5, s.first + s.batches.length, min (s.first + s.batches.length) 4611686018427387904, 4, 4⟩] = s.ok := by
  funext k n l
  simp only [hasR, List.any_cons, List.any_nil, Bool.or_false, Ru.ok, St.ok, h1, h2, Bool.true_eq_false, if_false]
  rw [Bool.eq_iff_iff]
  simp only [Bool.and_eq_true, Bool.or_eq_true, decide_eq_true_eq]
  omega
/-- How reading a part of a file ends. -/
def StepP {α : Type} (g : Nat) (W : World) (dv t0 t1 t2 t3 t4 t5 : Value) (X : Out α) (pos : Nat) (R : α → Ending → World → Prop) (e : Ending) (w' : World) : Prop :=
  But g W w' ∧ match X with
  | .bad => e = .panicked [{ v := brV true pos, recovered := false }] ∧ ∃ q : Nat, w'.heap[g]? = some (.cells (rdA dv q pos t0 t1 t2 t3 t4 t5) 51 (0, 0))
  | .torn => e = .panicked [{ v := brV false pos, recovered := false }] ∧ ∃ q : Nat, w'.heap[g]? = some (.cells (rdA dv q pos t0 t1 t2 t3 t4 t5) 51 (0, 0))
  | .got a => R a e w'
theorem wrap_id {n : Nat} (h : n ≤ 4611686018427387904) : IntKind.i64.wrap (n : Int) = (n : Int) := by
  rw [IntKind.wrap_i64]; omega
theorem range_row {w : World} {g : Nat} {c : Array Value} {t : Nat} (h : w.heap[g]? = some (.cells c t (0, 0))) : w.rangeAt g 0 c.toList := by
  have := World.rangeAt_of_block h 0 c.size
  rwa [show c.extract 0 (0 + c.size) = c by rw [Nat.zero_add]; simp] at this
theorem step_head {l : List Nat} {pos : Nat} {s : St} (hs : s.headed = false) : s.step crcN l pos = match recd crcN s.ok (l.drop pos) with
  | .bad => .bad
  | .torn => .torn
  | .got r => if 1 ≤ le r.body ∧ le r.body ≤ 4611686018427387904 then .got ({ s with headed := true, gen := r.number, first := le r.body }, pos + 22 + r.body.length) else .bad := by
  unfold St.step
  cases recd crcN s.ok (l.drop pos) with
  | bad => rfl
  | torn => rfl
  | got r =>
    simp only [St.take, hs, if_true]
    split
    · rename_i h; split at h
      · cases h
      · rename_i hh; rw [if_neg hh]
    · rename_i h; split at h
      · rename_i hh; rw [if_pos hh]; injection h with h; subst h; rfl
      · cases h
set_option maxRecDepth 100000 in
set_option maxHeartbeats 3200000 in
theorem head_any (W0 W : World) {g frm cD : Nat} {t0 t1 t2 t3 t4 t5 : Value} {oD : Option Addr} {l : List Nat}
    (hg : W.heap[g]? = some (.cells (rdA (.slice oD l.length cD) 0 frm t0 t1 t2 t3 t4 t5) 51 (0, 0))) (hD : Bl W0 (.slice oD l.length cD) l) (hlim : l.length ≤ 1000000000000) (hW0 : W0.heap.size ≤ g)
    (hag : ∀ j, j < W0.heap.size → W.heap[j]? = W0.heap[j]?) (hT : Tc W) (hTg : 0 < g) :
    Calls Tryd.prog 17 #[.pointer (some ⟨g, 0, none⟩)] W (StepP g W (.slice oD l.length cD) t0 t1 t2 t3 t4 t5 (St.new.step crcN l 0) 0 fun a e w' =>
      e = .returned (.tuple #[.int .i64 (a.1.gen : Int), .int .i64 (a.1.first : Int)]) ∧ w'.heap[g]? = some (.cells (rdA (.slice oD l.length cD) a.2 0 t0 t1 t2 t3 t4 t5) 51 (0, 0))) := by
  have gl : g < W.heap.size := (Array.getElem?_eq_some_iff.1 hg).1
  obtain ⟨V, hV⟩ : ∃ V, W.alloc (.cells #[.int .u8 1, .int .u64 1, .int .u64 4611686018427387904, .int .i64 8, .int .i64 8] 70) = V := ⟨_, rfl⟩
  have vg : V.heap[g]? = some (.cells (rdA (.slice oD l.length cD) 0 frm t0 t1 t2 t3 t4 t5) 51 (0, 0)) := by rw [← hV]; exact (heap_alloc_old _ _ (h := gl)).trans hg
  have vr : V.heap[W.heap.size]? = some (.cells (Ru.arr ⟨1, 1, 4611686018427387904, 8, 8⟩) 70 (0, 0)) := by rw [← hV]; exact heap_alloc_new _ _
  have vb : Below W.heap.size W V := by rw [← hV]; exact (Below.refl _ W).alloc (Nat.le_refl _) _
  have vs : W.heap.size < V.heap.size := by rw [← hV]; simp
  have C := record_any W0 V (rv := .slice (some ⟨W.heap.size, 0, none⟩) 1 1) vg hD (Nat.zero_le _) hlim hW0 (fun j hj => (vb.block j (by omega)).trans (hag j hj)) (hT.below vb (by omega)) hTg [⟨1, 1, 4611686018427387904, 8, 8⟩] (by simp) (fun w' hb => ⟨_, 0, 1, rfl, Nat.lt_of_lt_of_le vs hb.size, fun i u hu => by
    match i, hu with
    | 0, hu =>
      injection hu with hu
      subst hu
      exact range_row ((hb.block _ vs (by omega)).trans vr)⟩)
  rw [List.drop_zero, okHead] at C
  have hS := step_head (l := l) (pos := 0) (s := St.new) rfl
  rw [List.drop_zero] at hS
  have HF := mkHid (And.intro hag (And.intro hD hW0))
  clear hg vg vr hag hD hT
  replace hS := mkHid hS
  go_enter Tryd.func17, Tryd.ntmps17
  go_wp2_with fail
  refine C.mono ?_
  rintro e w ⟨hb, hx⟩
  have hb2 : But g W w := ⟨hb.os.trans vb.os, hb.tape.trans vb.tape, hb.output.trans vb.output, Nat.le_trans vb.size hb.size, fun k hk hn => (hb.block k (by omega) hn).trans (vb.block k hk)⟩
  cases hR : recd crcN St.new.ok l with
  | bad =>
    rw [hR] at hx
    obtain ⟨rfl, hx⟩ := hx
    have := hS.out
    rw [hR] at this
    exact ⟨rfl, hb2, by rw [this]; exact ⟨rfl, _, hx⟩⟩
  | torn =>
    rw [hR] at hx
    obtain ⟨rfl, hx⟩ := hx
    have := hS.out
    rw [hR] at this
    exact ⟨rfl, hb2, by rw [this]; exact ⟨rfl, _, hx⟩⟩
  | got r =>
    rw [hR] at hx
    obtain ⟨⟨oB, cB, rfl, hB⟩, hx⟩ := hx
    have hS2 := hS.out
    rw [hR] at hS2
    obtain ⟨q1, q2, q3, q4, q5, q6⟩ := recd_got hR
    have hok : r.number ≤ 4611686018427387904 ∧ r.body.length = 8 := by
      simp only [St.ok, St.new, if_true, decide_eq_true_eq] at q6
      omega
    have hB2 : Bl w (.slice oB r.body.length cB) r.body := hB.keep (by have := hb2.size; omega) (fun j hj => (hb2.block j (by omega) (by omega)).trans (HF.out.1 j hj))
    clear q1 q2 q3 q4 q5 q6 hB
    obtain ⟨Y, hY⟩ : ∃ Y, w.alloc (.cells #[.int .u8 (r.kind : Int), .int .u64 (r.number : Int), .int .i64 (r.body.length : Int), .slice oB r.body.length cB] 67) = Y := ⟨_, rfl⟩
    have yb : Below w.heap.size w Y := by rw [← hY]; exact (Below.refl _ w).alloc (Nat.le_refl _) _
    have gw : g < w.heap.size := (Array.getElem?_eq_some_iff.1 hx).1
    have yg := (yb.block g gw).trans hx
    have yr : Y.heap[w.heap.size]? = some (.cells (rcA r.kind r.number r.body.length (.slice oB r.body.length cB)) 67 (0, 0)) := by rw [← hY]; exact heap_alloc_new _ _
    have C2 := read_any _ _ Y (hB2.below yb) (by omega)
    have y2 : Y.cell? ⟨g, 2, none⟩ = some (.int .i64 ((0 : Nat) : Int)) := (cell_of_row _ _ _ _ _ _ yg).trans rfl
    have y1 : Y.cell? ⟨w.heap.size, 1, none⟩ = some (.int .u64 (r.number : Int)) := (cell_of_row _ _ _ _ _ _ yr).trans rfl
    have y3 : Y.cell? ⟨w.heap.size, 3, none⟩ = some (.slice oB r.body.length cB) := (cell_of_row _ _ _ _ _ _ yr).trans rfl
    have CS := fun t => spoilt_any t g 0 Y y2
    have yb2 := hb2.below yb
    have HY := mkHid (And.intro yg yb2)
    have w1 := wrap_id hok.1
    replace hok := mkHid hok
    clear yg yr hB2 hb2 hb vb y2 hR yb
    unfold rcA
    go_wp2_with fail
    refine C2.mono ?_
    rintro e w2 ⟨rfl, rfl⟩
    dsimp only
    obtain ⟨n, hn⟩ : ∃ n, le r.body = n := ⟨_, rfl⟩
    rw [hn] at hS2 ⊢
    clear C2 y3
    by_cases hc : 1 ≤ n ∧ n ≤ 4611686018427387904
    · rw [if_pos hc] at hS2
      replace hS2 := mkHid hS2
      have c1 : ¬ (n : Int) < 1 := by omega
      have c2 : ¬ (4611686018427387904 : Int) < (n : Int) := by omega
      have w2 := wrap_id hc.2
      go_wp2_with fail
      refine (CS _).mono ?_
      rintro e w3 ⟨rfl, rfl⟩
      simp only [brE, if_false, Bool.false_eq_true]
      go_wp2_with fail
      go_ret2
      exact ⟨HY.out.2, by rw [hS2.out]; exact ⟨rfl, HY.out.1⟩⟩
    · rw [if_neg hc] at hS2
      replace hS2 := mkHid hS2
      by_cases c1 : n < 1
      · have c2 : (n : Int) < 1 := by omega
        go_wp2_with fail
        refine (CS _).mono ?_
        rintro e w3 ⟨rfl, rfl⟩
        exact ⟨rfl, HY.out.2, by rw [hS2.out]; exact ⟨rfl, _, HY.out.1⟩⟩
      · have c2 : ¬ (n : Int) < 1 := by omega
        have c3 : (4611686018427387904 : Int) < (n : Int) := by omega
        go_wp2_with fail
        refine (CS _).mono ?_
        rintro e w3 ⟨rfl, rfl⟩
        exact ⟨rfl, HY.out.2, by rw [hS2.out]; exact ⟨rfl, _, HY.out.1⟩⟩
end Go.Proofs.YtlhpkpedooklnaaDoor
