/- JournalReplays: the base. -/
import Derived.Test.YtlhpkpedooklnaaDoorJrS
namespace Go.Proofs.YtlhpkpedooklnaaDoor
open Go.RowKit
open JM
/-- A step among the base's records. -/
theorem step_base {l : List Nat} {pos : Nat} {s : St} (hs : s.headed = true) (h2 : s.live = false) : s.step crcN l pos = match recd crcN s.ok (l.drop pos) with
  | .bad => .bad
  | .torn => .torn
  | .got r => .got (if r.kind = 2 then { s with base := s.base ++ [r.body] } else { s with live := true, good := pos + 22 + r.body.length }, pos + 22 + r.body.length) := by
  unfold St.step
  cases recd crcN s.ok (l.drop pos) with
  | bad => rfl
  | torn => rfl
  | got r =>
    simp only [St.take, hs, h2, if_true, Bool.true_eq_false, if_false]
    split
    · rename_i h; split at h <;> cases h
    · rename_i h
      split at h <;> (rename_i hk; injection h with h; subst h; simp only [hk, if_true, if_false])
theorem rul_two {w : World} {b cap : Nat} {u1 u2 : Ru} {t : Nat} (h : w.heap[b]? = some (.cells (u1.arr ++ u2.arr) t (0, 0))) : Rul w (.slice (some ⟨b, 0, none⟩) 2 cap) [u1, u2] := by
  refine ⟨b, 0, cap, rfl, (Array.getElem?_eq_some_iff.1 h).1, fun i u hu => ?_⟩
  match i, hu with
  | 0, hu =>
    injection hu with hu
    subst hu
    have := World.rangeAt_of_block h 0 5
    rwa [show (u1.arr ++ u2.arr).extract 0 (0 + 5) = u1.arr by simp [Ru.arr]] at this
  | 1, hu =>
    injection hu with hu
    subst hu
    have := World.rangeAt_of_block h 5 5
    rwa [show (u1.arr ++ u2.arr).extract 5 (5 + 5) = u2.arr by simp [Ru.arr]] at this
/-- How the base ends: what the file says besides is what it says from there on. -/
def BaseP (g : Nat) (W : World) (l : List Nat) (dv t0 t1 t2 t3 t4 t5 : Value) (s : St) (pos : Nat) (e : Ending) (w' : World) : Prop :=
  But g W w' ∧
  ((∃ (p : Nat) (s' : St), e = .panicked [{ v := brV true p, recovered := false }] ∧ from_ crcN l s pos = (s', some p) ∧ s'.live = false ∧ ∃ q : Nat, w'.heap[g]? = some (.cells (rdA dv q p t0 t1 t2 t3 t4 t5) 51 (0, 0))) ∨
   (∃ (p : Nat) (s' : St), e = .panicked [{ v := brV false p, recovered := false }] ∧ from_ crcN l s pos = (s', none) ∧ s'.live = false ∧ ∃ q : Nat, w'.heap[g]? = some (.cells (rdA dv q p t0 t1 t2 t3 t4 t5) 51 (0, 0))) ∨
   (∃ (p q : Nat) (bl : List (List Nat)) (a : Option Addr) (c : Nat), e = .returned (.slice a bl.length c) ∧ from_ crcN l s pos = from_ crcN l { s with base := bl, live := true, good := q } q ∧ Ll W.heap.size w' (.slice a bl.length c) bl ∧ q ≤ l.length ∧ w'.heap[g]? = some (.cells (rdA dv q p t0 t1 t2 t3 t4 t5) 51 (0, 0))))
attribute [local go_sem ↓] toApL in
set_option maxRecDepth 100000 in
set_option maxHeartbeats 3200000 in
theorem base_any (W0 W : World) {g pos frm cD : Nat} {t0 t1 t2 t3 t4 t5 : Value} {oD : Option Addr} {l : List Nat} (s : St) (hs : s.headed = true) (hs2 : s.live = false) (hs3 : s.base = [])
    (hg : W.heap[g]? = some (.cells (rdA (.slice oD l.length cD) pos frm t0 t1 t2 t3 t4 t5) 51 (0, 0))) (hD : Bl W0 (.slice oD l.length cD) l) (hp : pos ≤ l.length) (hlim : l.length ≤ 1000000000000) (hW0 : W0.heap.size ≤ g)
    (hag : ∀ j, j < W0.heap.size → W.heap[j]? = W0.heap[j]?) (hT : Tc W) (hTg : 0 < g) :
    Calls Tryd.prog 18 #[.pointer (some ⟨g, 0, none⟩)] W (BaseP g W l (.slice oD l.length cD) t0 t1 t2 t3 t4 t5 s pos) := by
  have gl : g < W.heap.size := (Array.getElem?_eq_some_iff.1 hg).1
  have HF := mkHid (And.intro hag (And.intro hD (And.intro hT (And.intro hg hs3))))
  clear hag hD hT hg hs3
  go_enter Tryd.func18, Tryd.ntmps18
  go_wp2_with fail
  go_loopw [3] (fun ov wr => ∃ (bl : List (List Nat)) (a : Option Addr) (c q p : Nat), ov = .slice a bl.length c ∧ Hid (bl.length ≤ 8192 ∧ q ≤ l.length ∧ pos + bl.length ≤ q ∧ Ll W.heap.size wr ov bl ∧ But g W wr ∧ wr.heap[g]? = some (.cells (rdA (.slice oD l.length cD) q p t0 t1 t2 t3 t4 t5) 51 (0, 0)) ∧ from_ crcN l s pos = from_ crcN l { s with base := bl } q)) (fun ov _ => match ov with | .slice _ n _ => 8193 - n | _ => 0)
  case atStart =>
    refine ⟨[], none, 0, pos, frm, rfl, ?_, hp, by simp, Ll.nil _ _, But.refl _ _, HF.out.2.2.2.1, ?_⟩
    · simp
    · rw [← HF.out.2.2.2.2]
  case round =>
    obtain ⟨bl, a, c, q, p, rfl, HI⟩ := hrel
    have hn : bl.length ≤ 1000000 := by have := HI.out.1; omega
    have gr : g < wr.heap.size := (Array.getElem?_eq_some_iff.1 HI.out.2.2.2.2.2.1).1
    have C1 := fun W => bodyRule_any 2 bl.length hn W
    have w1 : IntKind.u64.wrap (bl.length : Int) = (bl.length : Int) := by rw [IntKind.wrap_u64]; omega
    replace hn := mkHid hn
    go_wp2_with fail
    refine (C1 _).mono ?_
    rintro e x1 ⟨rfl, hb1, -⟩
    clear C1
    simp only [Ru.val, Ru.arr]
    obtain ⟨V, hV⟩ : ∃ V, x1.alloc (.cells #[.int .u8 2, .int .u64 (bl.length : Int), .int .u64 ((min bl.length 8191 : Nat) : Int), .int .i64 0, .int .i64 2097152, .int .u8 3, .int .u64 (bl.length : Int), .int .u64 (bl.length : Int), .int .i64 0, .int .i64 0] 70) = V := ⟨_, rfl⟩
    have vr : V.heap[x1.heap.size]? = some (.cells (Ru.arr ⟨2, bl.length, min bl.length 8191, 0, 2097152⟩ ++ Ru.arr ⟨3, bl.length, bl.length, 0, 0⟩) 70 (0, 0)) := by rw [← hV]; exact heap_alloc_new _ _
    have vb : Below wr.heap.size wr V := by rw [← hV]; exact hb1.alloc hb1.size _
    have vs : x1.heap.size < V.heap.size := by rw [← hV]; simp
    have hx1 : wr.heap.size ≤ x1.heap.size := hb1.size
    have vB : But g W V := HI.out.2.2.2.2.1.below vb
    have C := record_any W0 V (rv := .slice (some ⟨x1.heap.size, 0, none⟩) 2 2) ((vb.block g gr).trans HI.out.2.2.2.2.2.1) HF.out.2.1 HI.out.2.1 hlim hW0 (fun j hj => (vB.block j (by omega) (by omega)).trans (HF.out.1 j hj)) (HF.out.2.2.1.keep vB.size (vB.block _ (by omega) (by omega))) hTg [⟨2, bl.length, min bl.length 8191, 0, 2097152⟩, ⟨3, bl.length, bl.length, 0, 0⟩] (by simp) (fun w' hb => rul_two ((hb.block _ vs (by omega)).trans vr))
    rw [okBase { s with base := bl } hs hs2] at C
    have HS := mkHid (step_base (l := l) (pos := q) (s := { s with base := bl }) hs hs2)
    clear vr hb1
    go_wp2_with fail
    refine C.mono ?_
    rintro e w ⟨hb, hx⟩
    clear C
    have hb2 : But g W w := vB.trans hb
    cases hR : recd crcN { s with base := bl }.ok (l.drop q) with
    | bad =>
      rw [hR] at hx
      obtain ⟨rfl, hx⟩ := hx
      have := HS.out
      rw [hR] at this
      exact ⟨rfl, hb2, .inl ⟨q, _, rfl, HI.out.2.2.2.2.2.2.trans (from_bad (step_bad_lt this) this), hs2, _, hx⟩⟩
    | torn =>
      rw [hR] at hx
      obtain ⟨rfl, hx⟩ := hx
      have := HS.out
      rw [hR] at this
      exact ⟨rfl, hb2, .inr (.inl ⟨q, _, rfl, HI.out.2.2.2.2.2.2.trans (from_torn this), hs2, _, hx⟩)⟩
    | got r =>
      rw [hR] at hx
      obtain ⟨⟨oB, cB, rfl, hB⟩, hx⟩ := hx
      have hS2 := HS.out
      rw [hR] at hS2
      obtain ⟨q1, q2, q3, q4, q5, q6⟩ := recd_got hR
      rw [List.length_drop] at q1
      have hok : (r.kind = 2 ∧ bl.length < 8192) ∨ r.kind = 3 := by
        simp only [St.ok, hs, hs2, Bool.true_eq_false, if_false, if_true, Bool.or_eq_true, decide_eq_true_eq] at q6
        omega
      have hB2 : Bl w (.slice oB r.body.length cB) r.body := hB.keep (by have := hb2.size; omega) (fun j hj => (hb2.block j (by omega) (by omega)).trans (HF.out.1 j hj))
      have hLl : Ll W.heap.size w (.slice a bl.length c) bl := (HI.out.2.2.2.1.keep (stay_below vb)).keep (stay_but hb (by omega))
      have hsw : W.heap.size ≤ w.heap.size := hb2.size
      have hst := from_step hS2
      have hq1 : q + 22 + r.body.length ≤ l.length := by omega
      have hq2 := HI.out.2.2.1
      have hfr := HI.out.2.2.2.2.2.2
      clear q1 q2 q3 q4 q5 q6 hB HS hS2 hR vb vB hb
      obtain ⟨Y, hY⟩ : ∃ Y, w.alloc (.cells #[.int .u8 (r.kind : Int), .int .u64 (r.number : Int), .int .i64 (r.body.length : Int), .slice oB r.body.length cB] 67) = Y := ⟨_, rfl⟩
      have yb : Below w.heap.size w Y := by rw [← hY]; exact (Below.refl _ w).alloc (Nat.le_refl _) _
      have gw : g < w.heap.size := (Array.getElem?_eq_some_iff.1 hx).1
      have yg := (yb.block g gw).trans hx
      have yr : Y.heap[w.heap.size]? = some (.cells (rcA r.kind r.number r.body.length (.slice oB r.body.length cB)) 67 (0, 0)) := by rw [← hY]; exact heap_alloc_new _ _
      have y0 : Y.cell? ⟨w.heap.size, 0, none⟩ = some (.int .u8 (r.kind : Int)) := (cell_of_row _ _ _ _ _ _ yr).trans rfl
      have y3 : Y.cell? ⟨w.heap.size, 3, none⟩ = some (.slice oB r.body.length cB) := (cell_of_row _ _ _ _ _ _ yr).trans rfl
      have yb2 := hb2.below yb
      have yl := hLl.keep (stay_below yb)
      rcases hok with ⟨hk, hbl⟩ | hk
      · rw [hk, if_pos rfl] at hst
        have yB := hB2.below yb
        have CL := clone_any _ _ Y yB (by unfold LIM; omega)
        have HY := mkHid (And.intro yg (And.intro yb2 (And.intro yl (And.intro hst (And.intro hfr (And.intro hq1 hbl))))))
        clear yg yr hB2 hb2 yB yl hst hfr hbl
        unfold rcA
        rw [hk, show ((2 : Nat) : Int) = 2 from rfl] at y0 hY
        rw [hk]
        go_wp2_with fail
        refine CL.mono ?_
        rintro e x2 ⟨v2, rfl, hO, hb3⟩
        clear CL
        obtain ⟨o2, c2, rfl⟩ := hO.sl
        have hsY : w.heap.size ≤ Y.heap.size := yb.size
        have xb := HY.out.2.1.below hb3
        have xl := HY.out.2.2.1.keep (stay_below hb3)
        obtain ⟨a3, c3, x3, hr, hl3, hG⟩ := xl.add (by have := hb3.size; omega) (hO.mono (by omega)) (by have := HY.out.2.2.2.2.2.2; omega)
        have x3g := (hG.low g (by omega) (by have := hb3.size; omega)).trans ((hb3.block g (by omega)).trans HY.out.1)
        have x3b : But g W x3 := ⟨hG.os.trans xb.os, hG.tape.trans xb.tape, hG.output.trans xb.output, Nat.le_trans xb.size hG.size, fun k hk hn => (hG.low k hk (by have := xb.size; omega)).trans (xb.block k hk hn)⟩
        have HZ := mkHid (And.intro hl3 (And.intro x3g x3b))
        clear hl3 x3g x3b xl xb hO hb3 y0 y3
        go_wp2_with fail
        refine ⟨⟨bl ++ [r.body], a3, c3, q + 22 + r.body.length, q, by simp, ?_, HY.out.2.2.2.2.2.1, ?_, HZ.out.1, HZ.out.2.2, HZ.out.2.1, HY.out.2.2.2.2.1.trans HY.out.2.2.2.1⟩, ?_⟩
        · have := HY.out.2.2.2.2.2.2; simp; omega
        · simp; omega
        · have := HY.out.2.2.2.2.2.2; dsimp only; omega
      · rw [hk, if_neg (by decide)] at hst
        have HY := mkHid (And.intro yg (And.intro yb2 (And.intro yl (And.intro hst (And.intro hfr hq1)))))
        clear yg yr hB2 hb2 yl hst hfr
        unfold rcA
        rw [hk, show ((3 : Nat) : Int) = 3 from rfl] at y0 hY
        rw [hk]
        go_wp2_with fail
        go_ret
        exact ⟨HY.out.2.1, .inr (.inr ⟨q, q + 22 + r.body.length, bl, a, c, rfl, HY.out.2.2.2.2.1.trans HY.out.2.2.2.1, HY.out.2.2.1, HY.out.2.2.2.2.2, HY.out.1⟩)⟩
end Go.Proofs.YtlhpkpedooklnaaDoor
