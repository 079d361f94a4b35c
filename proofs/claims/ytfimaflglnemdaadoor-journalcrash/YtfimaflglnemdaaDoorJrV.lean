/- JournalReplays: a batch. -/
import Derived.Test.YtfimaflglnemdaaDoorJrU
namespace Go.Proofs.YtfimaflglnemdaaDoor
open Go.RowKit
open JM
theorem put3b (X : Nat → Value) (v0 v1 v2 v3 v4 v5 v6 v7 v8 v9 v10 v11 v12 v13 v14 v15 v16 v17 v18 v19 v20 v21 v22 v23 v24 v25 v26 v27 v28 v29 v30 v31 v32 v33 v34 v35 v36 v37 v38 v39 : Value) : putN reg3b X ⟨#[v0, v1, v2, v3, v4, v5, v6, v7, v8, v9, v10, v11, v12, v13, v14, v15, v16, v17, v18, v19, v20, v21, v22, v23, v24, v25, v26, v27, v28, v29, v30, v31, v32, v33, v34, v35, v36, v37, v38, v39], []⟩ reg3b.size = ⟨#[v0, v1, v2, v3, v4, v5, v6, X 7, v8, v9, v10, v11, v12, v13, X 0, X 1, X 2, X 3, X 4, X 5, X 6, v21, v22, v23, v24, v25, v26, v27, v28, v29, v30, v31, v32, v33, v34, v35, v36, v37, v38, v39], []⟩ := by kernel_rfl
theorem step_batch {l : List Nat} {pos : Nat} {s : St} (hs : s.headed = true) (h2 : s.live = true) : s.step crcN l pos = match recd crcN s.ok (l.drop pos) with
  | .bad => .bad
  | .torn => .torn
  | .got r => if r.kind = 4 then .got ({ s with pending := s.pending ++ [r.body] }, pos + 22 + r.body.length) else if le r.body = s.pending.length then .got ({ s with batches := s.batches ++ [s.pending], pending := [], good := pos + 22 + r.body.length }, pos + 22 + r.body.length) else .bad := by
  unfold St.step
  cases recd crcN s.ok (l.drop pos) with
  | bad => rfl
  | torn => rfl
  | got r =>
    simp only [St.take, hs, h2, Bool.true_eq_false, if_false]
    by_cases hk : r.kind = 4
    · simp only [hk, if_true]
    · simp only [hk, if_false]
      by_cases hl : le r.body = s.pending.length
      · simp only [hl, if_true]
      · simp only [hl, if_false]
def mnU (ty : Nat) (vs : Array Value) : Sem Value := Builtin.min_ #[140, 140] ty vs
theorem toMnU (ty : Nat) (vs : Array Value) : Builtin.min_ #[140, 140] ty vs = mnU ty vs := rfl
theorem run_mnU (w : World) (a b : Nat) : (mnU 140 #[.int .u64 (a : Int), .int .u64 (b : Int)]).run Tryd.prog w = .ok (.int .u64 ((min a b : Nat) : Int)) w := by
  unfold mnU
  by_cases h : a ≤ b
  · rw [Nat.min_eq_left h]
    have h3 : ¬ (b : Int) < (a : Int) := by omega
    simp [Builtin.min_, Builtin.min2, go_sem, h3]
  · rw [Nat.min_eq_right (by omega)]
    have h3 : (b : Int) < (a : Int) := by omega
    simp [Builtin.min_, Builtin.min2, go_sem, h3]
/-- How a batch ends. -/
def BatchP (g : Nat) (W : World) (l : List Nat) (dv t0 t1 t2 t3 t4 t5 : Value) (s : St) (pos : Nat) (e : Ending) (w' : World) : Prop :=
  But g W w' ∧
  ((∃ (p : Nat) (pl : List (List Nat)), e = .panicked [{ v := brV true p, recovered := false }] ∧ from_ crcN l s pos = ({ s with pending := pl }, some p) ∧ ∃ q : Nat, w'.heap[g]? = some (.cells (rdA dv q p t0 t1 t2 t3 t4 t5) 130 (0, 0))) ∨
   (∃ (p : Nat) (pl : List (List Nat)), e = .panicked [{ v := brV false p, recovered := false }] ∧ from_ crcN l s pos = ({ s with pending := pl }, none) ∧ ∃ q : Nat, w'.heap[g]? = some (.cells (rdA dv q p t0 t1 t2 t3 t4 t5) 130 (0, 0))) ∨
   (∃ (p q : Nat) (pl : List (List Nat)) (a : Option Addr) (c : Nat), e = .returned (.slice a pl.length c) ∧ from_ crcN l s pos = from_ crcN l { s with batches := s.batches ++ [pl], pending := [], good := q } q ∧ Ll W.heap.size w' (.slice a pl.length c) pl ∧ pos < q ∧ q ≤ l.length ∧ w'.heap[g]? = some (.cells (rdA dv q p t0 t1 t2 t3 t4 t5) 130 (0, 0))))
attribute [local go_sem ↓] toApL toMnU in
set_option maxRecDepth 100000 in
set_option maxHeartbeats 3200000 in
theorem batch_any (W0 W : World) {g pos frm cD : Nat} {t0 t1 t2 t3 t4 t5 : Value} {oD : Option Addr} {l : List Nat} (s : St) (hs : s.headed = true) (hs2 : s.live = true) (hs3 : s.pending = []) (num : Nat) (hnum : num = s.first + s.batches.length) (hnl : num ≤ 5000000000000000000)
    (hg : W.heap[g]? = some (.cells (rdA (.slice oD l.length cD) pos frm t0 t1 t2 t3 t4 t5) 130 (0, 0))) (hD : Bl W0 (.slice oD l.length cD) l) (hp : pos ≤ l.length) (hlim : l.length ≤ 1000000000000) (hW0 : W0.heap.size ≤ g)
    (hag : ∀ j, j < W0.heap.size → W.heap[j]? = W0.heap[j]?) (hT : Tc W) (hTg : 0 < g) :
    Calls Tryd.prog 76 #[.pointer (some ⟨g, 0, none⟩), .int .i64 (num : Int)] W (BatchP g W l (.slice oD l.length cD) t0 t1 t2 t3 t4 t5 s pos) := by
  have gl : g < W.heap.size := (Array.getElem?_eq_some_iff.1 hg).1
  have w1 : IntKind.u64.wrap (num : Int) = (num : Int) := by rw [IntKind.wrap_u64]; omega
  have HF := mkHid (And.intro hag (And.intro hD (And.intro hT (And.intro hg hs3))))
  clear hag hD hT hg hs3
  have hM := fun w => run_mnU w num 4611686018427387904
  rw [show ((4611686018427387904 : Nat) : Int) = 4611686018427387904 from rfl] at hM
  obtain ⟨mo, hmo⟩ : ∃ mo, min num 4611686018427387904 = mo := ⟨_, rfl⟩
  rw [hmo] at hM
  replace hmo := mkHid hmo
  replace hnum := mkHid hnum
  replace hnl := mkHid hnl
  go_enter Tryd.func76, Tryd.ntmps76
  go_wp2_with fail
  obtain ⟨V0, hV0⟩ : ∃ V0, W.alloc (.cells #[.int .u8 5, .int .u64 (num : Int), .int .u64 (mo : Int), .int .i64 4, .int .i64 4] 145) = V0 := ⟨_, rfl⟩
  have v0r : V0.heap[W.heap.size]? = some (.cells (Ru.arr ⟨5, num, mo, 4, 4⟩) 145 (0, 0)) := by rw [← hV0]; exact heap_alloc_new _ _
  have v0b : Below W.heap.size W V0 := by rw [← hV0]; exact (Below.refl _ W).alloc (Nat.le_refl _) _
  rw [hV0]
  clear hV0 hM
  go_loopw [6] (fun ov wr => ∃ (bl : List (List Nat)) (a : Option Addr) (c q p : Nat), ov = .slice a bl.length c ∧ Hid (bl.length ≤ 8192 ∧ q ≤ l.length ∧ pos + bl.length ≤ q ∧ Ll W.heap.size wr ov bl ∧ But g W wr ∧ wr.heap[g]? = some (.cells (rdA (.slice oD l.length cD) q p t0 t1 t2 t3 t4 t5) 130 (0, 0)) ∧ from_ crcN l s pos = from_ crcN l { s with pending := bl } q ∧ wr.heap[W.heap.size]? = some (.cells (Ru.arr ⟨5, num, mo, 4, 4⟩) 145 (0, 0)))) (fun ov _ => match ov with | .slice _ n _ => 8193 - n | _ => 0)
  case atStart =>
    refine ⟨[], none, 0, pos, frm, rfl, ?_, hp, by simp, Ll.nil _ _, (But.refl g W).below v0b, (v0b.block g gl).trans HF.out.2.2.2.1, ?_, v0r⟩
    · simp
    · rw [← HF.out.2.2.2.2]
  case round =>
    obtain ⟨bl, a, c, q, p, rfl, HI⟩ := hrel
    clear v0r v0b
    obtain ⟨i1, i2, i3, i4, i5, i6, i7, i8⟩ := HI.out
    have gr : g < wr.heap.size := (Array.getElem?_eq_some_iff.1 i6).1
    have rr : W.heap.size < wr.heap.size := (Array.getElem?_eq_some_iff.1 i8).1
    have HS := mkHid (step_batch (l := l) (pos := q) (s := { s with pending := bl }) hs hs2)
    have hd0 : Below wr.heap.size wr wr.drew := ⟨rfl, rfl, rfl, Nat.le_refl _, fun _ _ => rfl⟩
    have CR : ∀ (X : World) (b : Nat), Below wr.heap.size wr X → wr.heap.size ≤ b → X.heap[b]? = some (.cells (Ru.arr ⟨4, bl.length, min bl.length 8191, 0, 2097152⟩ ++ Ru.arr ⟨5, num, mo, 4, 4⟩) 145 (0, 0)) → Calls Tryd.prog 77 #[.pointer (some ⟨g, 0, none⟩), .slice (some ⟨b, 0, none⟩) 2 2] X (RecP g W0 X (.slice oD l.length cD) t0 t1 t2 t3 t4 t5 q (recd crcN { s with pending := bl }.ok (l.drop q))) := by
      intro X b hX hb hc
      have bl2 := (Array.getElem?_eq_some_iff.1 hc).1
      have xB : But g W X := i5.below hX
      have C := record_any W0 X (rv := .slice (some ⟨b, 0, none⟩) 2 2) ((hX.block g gr).trans i6) HF.out.2.1 i2 hlim hW0 (fun j hj => (xB.block j (by omega) (by omega)).trans (HF.out.1 j hj)) (HF.out.2.2.1.keep xB.size (xB.block _ (by omega) (by omega))) hTg [⟨4, bl.length, min bl.length 8191, 0, 2097152⟩, ⟨5, num, mo, 4, 4⟩] (by simp) (fun w' hb' => rul_two ((hb'.block _ bl2 (by omega)).trans hc))
      have ho := okBatch { s with pending := bl } hs hs2
      simp only [← hnum.out, hmo.out] at ho
      rw [ho] at C
      exact C
    replace CR := mkHid CR
    go_upto_region 3 with fail
    rename_i K hK
    replace hK := mkHid hK
    refine wp_region_fx (ops := reg3b) (J := JB g bl.length (.slice a bl.length c) ⟨4, bl.length, min bl.length 8191, 0, 2097152⟩ ⟨5, num, mo, 4, 4⟩ (fun cc => ∃ r oB cB, recd crcN { s with pending := bl }.ok (l.drop q) = .got r ∧ cc = rcA r.kind r.number r.body.length (.slice oB r.body.length cB) ∧ Bl W0 (.slice oB r.body.length cB) r.body) wr (fun w => ∃ r, recd crcN { s with pending := bl }.ok (l.drop q) = .got r ∧ w.heap[g]? = some (.cells (rdA (.slice oD l.length cD) (q + 22 + r.body.length) q t0 t1 t2 t3 t4 t5) 130 (0, 0)))) (fun _ => undef) (by kernel_rfl) (fun i o ho => (okR_at okR3b ho).1) (fun i j o oj d ho hj q1 q2 => (okR_at okR3b ho).2.2 j oj d hj q1 q2) (fun i o d ho q => (okR_at okR3b ho).2.1 d q) ?_ ?_ ?_
    · refine step3b _ (k1 := 4) (rb := W.heap.size) _ rfl rfl rfl gr (by omega) i8 ?_ ?_ (by omega) rfl ?_ ?_
      · rintro x y ⟨r, h1, h2⟩ hb
        exact ⟨r, h1, (hb.block g (Array.getElem?_eq_some_iff.1 h2).1).trans h2⟩
      · rintro x y ⟨r, h1, h2⟩ hb
        exact ⟨r, h1, hb.trans h2⟩
      · rintro cc ⟨r, oB, cB, _, rfl, _⟩
        exact ⟨rfl, by simp [rcA, Value.oneCell']⟩
      · intro X b hX hb hc
        refine (CR.out X b hX hb hc).mono ?_
        rintro e w ⟨hb, hx⟩
        have hb2 : But g W w := (i5.below hX).trans hb
        cases hR : recd crcN { s with pending := bl }.ok (l.drop q) with
        | bad =>
          rw [hR] at hx
          obtain ⟨rfl, hx⟩ := hx
          have := HS.out
          rw [hR] at this
          exact .inr ⟨_, rfl, fun a ha => ⟨ha, hb2, .inl ⟨q, bl, rfl, i7.trans (from_bad (step_bad_lt this) this), _, hx⟩⟩⟩
        | torn =>
          rw [hR] at hx
          obtain ⟨rfl, hx⟩ := hx
          have := HS.out
          rw [hR] at this
          exact .inr ⟨_, rfl, fun a ha => ⟨ha, hb2, .inr (.inl ⟨q, bl, rfl, i7.trans (from_torn this), _, hx⟩)⟩⟩
        | got r =>
          rw [hR] at hx
          obtain ⟨⟨oB, cB, rfl, hB⟩, hx⟩ := hx
          exact .inl ⟨_, rfl, ⟨r, oB, cB, rfl, rfl, hB⟩, hb, r, rfl, hx⟩
    · exact ⟨fun h => by simp [size3b] at h, fun h => by simp [size3b] at h, fun h => by simp [size3b] at h, fun h => by simp [size3b] at h, fun h => by simp [size3b] at h, fun h => by simp [size3b] at h, fun h => by simp [size3b] at h, fun h => by simp [size3b] at h, fun h => by simp [size3b] at h, fun _ => hd0, fun h => by simp [size3b] at h, Nat.le_refl _⟩
    · intro X w hJ
      rw [put3b]
      rw [size3b] at hJ
      obtain ⟨b7, e7, k1, -, k3⟩ := hJ.x7 rfl
      obtain ⟨cc, k4, r, oB, cB, hR, rfl, hB⟩ := k3 rfl
      obtain ⟨hb, r', hR', hx⟩ := hJ.s2 rfl
      rw [hR] at hR'
      injection hR' with hR'
      subst hR'
      obtain ⟨c6, e6, -⟩ := hJ.x6 rfl
      obtain ⟨b5, e5, -⟩ := hJ.x5 rfl
      rw [hJ.x0 rfl, hJ.x1 rfl, hJ.x2 rfl, hJ.x3 rfl, hJ.x4 rfl, e5, e6, e7]
      have hS2 := HS.out
      rw [hR] at hS2
      dsimp only at hS2
      obtain ⟨q1, q2, q3, q4, q5, q6⟩ := recd_got hR
      rw [List.length_drop] at q1
      have hok : (r.kind = 4 ∧ bl.length < 8192) ∨ (r.kind = 5 ∧ r.body.length = 4) := by
        simp only [St.ok, hs, hs2, Bool.true_eq_false, if_false, Bool.or_eq_true, decide_eq_true_eq] at q6
        omega
      have hb2 : But g W w := i5.trans hb
      have hB2 : Bl w (.slice oB r.body.length cB) r.body := hB.keep (by have := hb2.size; omega) (fun j hj => (hb2.block j (by omega) (by omega)).trans (HF.out.1 j hj))
      have hLl : Ll W.heap.size w (.slice a bl.length c) bl := i4.keep (stay_but hb (by omega))
      have hrl : w.heap[W.heap.size]? = some (.cells (Ru.arr ⟨5, num, mo, 4, 4⟩) 145 (0, 0)) := (hb.block _ rr (by omega)).trans i8
      have hsw : wr.heap.size ≤ w.heap.size := hb.size
      have y0 : w.cell? ⟨b7, 0, none⟩ = some (.int .u8 (r.kind : Int)) := (cell_of_row _ _ _ _ _ _ k4).trans rfl
      have y3 : w.cell? ⟨b7, 3, none⟩ = some (.slice oB r.body.length cB) := (cell_of_row _ _ _ _ _ _ k4).trans rfl
      have hq1 : q + 22 + r.body.length ≤ l.length := by omega
      clear q1 q2 q3 q4 q5 q6 hB HS hR hb CR hJ e5 e6 e7 k4 k1 k3 HI
      rcases hok with ⟨hk, hbl⟩ | ⟨hk, hl4⟩
      · rw [hk, if_pos rfl] at hS2
        have hst := i7.trans (from_step hS2)
        have CL := clone_any _ _ w hB2 (by unfold LIM; omega)
        have HY := mkHid (And.intro hx (And.intro hb2 (And.intro hLl (And.intro hst (And.intro hq1 (And.intro hbl hrl))))))
        clear hx hb2 hLl hst hq1 hbl hrl hS2 hB2 i1 i4 i5 i6 i7 i8
        rw [hk, show ((4 : Nat) : Int) = 4 from rfl] at y0
        refine hK.out _ _ ?_
        clear hK
        go_wp2_with fail
        refine CL.mono ?_
        rintro e x2 ⟨v2, rfl, hO, hb3⟩
        clear CL
        obtain ⟨o2, c2, rfl⟩ := hO.sl
        have xb := HY.out.2.1.below hb3
        have xl := HY.out.2.2.1.keep (stay_below hb3)
        obtain ⟨a3, c3, x3, hr, hl3, hG⟩ := xl.add (by have := hb3.size; omega) (hO.mono (by omega)) (by have := HY.out.2.2.2.2.2.1; omega)
        have x3g := (hG.low g (by omega) (by have := hb3.size; omega)).trans ((hb3.block g (by omega)).trans HY.out.1)
        have x3b : But g W x3 := ⟨hG.os.trans xb.os, hG.tape.trans xb.tape, hG.output.trans xb.output, Nat.le_trans xb.size hG.size, fun k hk hn => (hG.low k hk (by have := xb.size; omega)).trans (xb.block k hk hn)⟩
        have x3r : x3.heap[W.heap.size]? = some (.cells (Ru.arr ⟨5, num, mo, 4, 4⟩) 145 (0, 0)) := by
          have := (hb3.block W.heap.size (by omega)).trans HY.out.2.2.2.2.2.2
          exact (hG.oth _ _ _ this (by decide)).trans this
        have HZ := mkHid (And.intro hl3 (And.intro x3g (And.intro x3b x3r)))
        clear hl3 x3g x3b x3r xl xb hO hb3 y0 y3 hG
        go_wp2_with fail
        refine ⟨⟨bl ++ [r.body], a3, c3, q + 22 + r.body.length, q, by simp, ?_, HY.out.2.2.2.2.1, ?_, HZ.out.1, HZ.out.2.2.1, HZ.out.2.1, HY.out.2.2.2.1, HZ.out.2.2.2⟩, ?_⟩
        · have := HY.out.2.2.2.2.2.1; simp; omega
        · simp; omega
        · have := HY.out.2.2.2.2.2.1; dsimp only; omega
      · rw [hk, if_neg (by decide)] at hS2
        have CR := read_any _ _ w hB2 (by omega)
        have y2 : w.cell? ⟨g, 2, none⟩ = some (.int .i64 (q : Int)) := (cell_of_row _ _ _ _ _ _ hx).trans rfl
        have CS := fun t => spoilt_any t g q w y2
        have wl : IntKind.u64.wrap (bl.length : Int) = (bl.length : Int) := by rw [IntKind.wrap_u64]; omega
        have HY := mkHid (And.intro hx (And.intro hb2 (And.intro hLl (And.intro i7 (And.intro hq1 hl4)))))
        clear hx hb2 hLl hq1 hrl hB2 i1 i4 i5 i6 i7 i8 hl4 y2
        rw [hk, show ((5 : Nat) : Int) = 5 from rfl] at y0
        obtain ⟨n, hn⟩ : ∃ n, le r.body = n := ⟨_, rfl⟩
        rw [hn] at CR hS2
        refine hK.out _ _ ?_
        clear hK
        go_wp2_with fail
        refine CR.mono ?_
        rintro e w2 ⟨rfl, rfl⟩
        dsimp only
        clear CR
        by_cases hc : n = bl.length
        · rw [if_pos hc] at hS2
          replace hS2 := mkHid hS2
          subst hc
          go_wp2_with fail
          refine (CS _).mono ?_
          rintro e w3 ⟨rfl, rfl⟩
          simp only [brE, if_false, Bool.false_eq_true]
          go_wp2_with fail
          go_ret
          exact ⟨HY.out.2.1, .inr (.inr ⟨q, q + 22 + r.body.length, bl, a, c, rfl, HY.out.2.2.2.1.trans (from_step hS2.out), HY.out.2.2.1, by omega, HY.out.2.2.2.2.1, HY.out.1⟩)⟩
        · rw [if_neg hc] at hS2
          replace hS2 := mkHid hS2
          have hc2 : ((n : Int) != (bl.length : Int)) = true := by rw [bne, beq_int]; simp [hc]
          go_wp2_with fail
          refine (CS _).mono ?_
          rintro e w3 ⟨rfl, rfl⟩
          exact ⟨rfl, HY.out.2.1, .inl ⟨q, bl, rfl, HY.out.2.2.2.1.trans (from_bad (step_bad_lt hS2.out) hS2.out), _, HY.out.1⟩⟩
end Go.Proofs.YtfimaflglnemdaaDoor
