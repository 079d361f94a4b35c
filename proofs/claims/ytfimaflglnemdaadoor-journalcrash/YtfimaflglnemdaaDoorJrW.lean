/- JournalReplays: a file's story. -/
import Derived.Test.YtfimaflglnemdaaDoorJrV
namespace Go.Proofs.YtfimaflglnemdaaDoor
open Go.RowKit
open JM
theorem sizeSt : (Tryd.prog.info? 47).map (·.size) = some 6 := by kernel_rfl
def ldSt (p : Value) : Sem Value := Instr.loadAt 47 p
theorem toLdSt (p : Value) : Instr.loadAt 47 p = ldSt p := rfl
def stSt (p v : Value) : Sem Unit := Instr.storeAt 47 p v
theorem toStSt (p v : Value) : Instr.storeAt 47 p v = stSt p v := rfl
theorem ld_St (w : World) (g o : Nat) (c : Array Value) (hc : c.size = 6) (h : w.rangeAt g o c.toList) : (ldSt (.pointer (some ⟨g, o, none⟩))).run Tryd.prog w = .ok (.agg c) w := by
  have := run_loadAt_mid (P := Tryd.prog) w g o 47 c.toList _ h Tryd.underlying47 rfl (by rw [sizeSt]; simp [hc])
  simpa [ldSt] using this
theorem st_St (w : World) (g o : Nat) (c : Array Value) (hc : c.size = 6) (h1 : c.all (·.oneCell') = true) (ht : w.there g o 6) : (stSt (.pointer (some ⟨g, o, none⟩)) (.agg c)).run Tryd.prog w = .ok () (w.setCells g o c.toList) := by
  have := run_storeAt_mid (P := Tryd.prog) w g o 47 c (by rw [hc]; exact ht) (by rw [sizeSt, hc]) h1
  simpa [stSt] using this
theorem rd_there {w : World} {g : Nat} {dv t0 t1 t2 t3 t4 t5 : Value} {a f : Nat} (h : w.heap[g]? = some (.cells (rdA dv a f t0 t1 t2 t3 t4 t5) 130 (0, 0))) : w.there g 3 6 := by
  intro j hj
  have : w.cell? ⟨g, 3 + j, none⟩ = (rdA dv a f t0 t1 t2 t3 t4 t5)[3 + j]? := cell_of_row _ _ _ _ _ _ h
  have hf : w.frozen? ⟨g, 3 + j, none⟩ = false := frozen_of_row _ _ _ _ _ h
  match j, hj with
  | 0, _ => exact ⟨by rw [this]; rfl, hf⟩
  | 1, _ => exact ⟨by rw [this]; rfl, hf⟩
  | 2, _ => exact ⟨by rw [this]; rfl, hf⟩
  | 3, _ => exact ⟨by rw [this]; rfl, hf⟩
  | 4, _ => exact ⟨by rw [this]; rfl, hf⟩
  | 5, _ => exact ⟨by rw [this]; rfl, hf⟩
theorem rd_set {w : World} {g : Nat} {dv t0 t1 t2 t3 t4 t5 : Value} {a f : Nat} (s0 s1 s2 s3 s4 s5 : Value) (h : w.heap[g]? = some (.cells (rdA dv a f t0 t1 t2 t3 t4 t5) 130 (0, 0))) :
    (w.setCells g 3 [s0, s1, s2, s3, s4, s5]).heap[g]? = some (.cells (rdA dv a f s0 s1 s2 s3 s4 s5) 130 (0, 0)) ∧ But g w (w.setCells g 3 [s0, s1, s2, s3, s4, s5]) := by
  have e0 := heap_setCell_same w g 3 _ _ s0 h
  have e1 := heap_setCell_same _ g 4 _ _ s1 e0
  have e2 := heap_setCell_same _ g 5 _ _ s2 e1
  have e3 := heap_setCell_same _ g 6 _ _ s3 e2
  have e4 := heap_setCell_same _ g 7 _ _ s4 e3
  have e5 := heap_setCell_same _ g 8 _ _ s5 e4
  exact ⟨e5.trans rfl, (((((((But.refl g w).set 3 s0).set 4 s1).set 5 s2).set 6 s3).set 7 s4).set 8 s5)⟩
/-- What a reader has told. -/
def Told (B fl : Nat) (w : World) (s : St) (t0 t1 t2 t3 t4 t5 : Value) : Prop :=
  if s.live = true then t0 = .int .i64 (fl : Int) ∧ t1 = .int .i64 (s.good : Int) ∧ t2 = .int .i64 (s.gen : Int) ∧ t3 = .int .i64 (s.first : Int) ∧ Ll B w t4 s.base ∧ Lb B w t5 s.batches
  else t0 = .int .i64 (-1) ∧ t1 = .int .i64 0 ∧ t2 = .int .i64 0 ∧ t3 = .int .i64 0 ∧ t4 = .slice none 0 0 ∧ t5 = .slice none 0 0
/-- How a story ends. -/
def StoryP (g : Nat) (W : World) (fl : Nat) (l : List Nat) (dv : Value) (e : Ending) (w' : World) : Prop :=
  But g W w' ∧ (∃ (q f : Nat) (t0 t1 t2 t3 t4 t5 : Value), w'.heap[g]? = some (.cells (rdA dv q f t0 t1 t2 t3 t4 t5) 130 (0, 0)) ∧ Told W.heap.size fl w' (file crcN l).1 t0 t1 t2 t3 t4 t5) ∧
  match (file crcN l).2 with
  | some p => e = .panicked [{ v := brV true p, recovered := false }]
  | none => e = .returned (.tuple #[]) ∨ ∃ p, e = .panicked [{ v := brV false p, recovered := false }]
theorem head_got {l : List Nat} {s' : St} {p' : Nat} (h : St.new.step crcN l 0 = .got (s', p')) : s' = { St.new with headed := true, gen := s'.gen, first := s'.first } ∧ 1 ≤ s'.gen ∧ s'.gen ≤ 4611686018427387904 ∧ s'.first ≤ 4611686018427387904 := by
  rw [step_head rfl] at h
  cases hR : recd crcN St.new.ok (l.drop 0) with
  | bad => rw [hR] at h; cases h
  | torn => rw [hR] at h; cases h
  | got r =>
    rw [hR] at h
    dsimp only at h
    split at h
    · rename_i hc
      injection h with h
      injection h with h1 h2
      subst h1
      obtain ⟨-, -, -, -, -, q6⟩ := recd_got hR
      simp only [St.ok, St.new, if_true, decide_eq_true_eq] at q6
      exact ⟨rfl, q6.2.1, q6.2.2.1, hc.2⟩
    · cases h
attribute [local go_sem ↓] toApM toLdSt toStSt in
set_option maxRecDepth 100000 in
set_option maxHeartbeats 3200000 in
theorem story_any (W0 W : World) {g frm cD fl : Nat} {oD : Option Addr} {l : List Nat}
    (hg : W.heap[g]? = some (.cells (rdA (.slice oD l.length cD) 0 frm (.int .i64 (-1)) (.int .i64 0) (.int .i64 0) (.int .i64 0) (.slice none 0 0) (.slice none 0 0)) 130 (0, 0))) (hD : Bl W0 (.slice oD l.length cD) l) (hlim : l.length ≤ 99999999) (hW0 : W0.heap.size ≤ g)
    (hag : ∀ j, j < W0.heap.size → W.heap[j]? = W0.heap[j]?) (hT : Tc W) (hTg : 0 < g) :
    Calls Tryd.prog 72 #[.pointer (some ⟨g, 0, none⟩), .int .i64 (fl : Int)] W (StoryP g W fl l (.slice oD l.length cD)) := by
  have gl : g < W.heap.size := (Array.getElem?_eq_some_iff.1 hg).1
  have CH := head_any W0 W hg hD (by omega) hW0 hag hT hTg
  have HF := mkHid (And.intro hag (And.intro hD (And.intro hT hg)))
  clear hag hD hT hg
  go_enter Tryd.func72, Tryd.ntmps72
  go_wp2_with fail
  refine CH.mono ?_
  rintro e w ⟨hb, hx⟩
  clear CH
  cases hR : St.new.step crcN l 0 with
  | bad =>
    rw [hR] at hx
    obtain ⟨rfl, q, hx⟩ := hx
    have hf : file crcN l = (St.new, some 0) := from_bad (step_bad_lt hR) hR
    exact ⟨rfl, hb, ⟨q, 0, _, _, _, _, _, _, hx, by rw [hf]; exact ⟨rfl, rfl, rfl, rfl, rfl, rfl⟩⟩, by rw [hf]⟩
  | torn =>
    rw [hR] at hx
    obtain ⟨rfl, q, hx⟩ := hx
    have hf : file crcN l = (St.new, none) := from_torn hR
    exact ⟨rfl, hb, ⟨q, 0, _, _, _, _, _, _, hx, by rw [hf]; exact ⟨rfl, rfl, rfl, rfl, rfl, rfl⟩⟩, by rw [hf]; exact .inr ⟨_, rfl⟩⟩
  | got sp =>
    rw [hR] at hx
    obtain ⟨s, p⟩ := sp
    obtain ⟨rfl, hx⟩ := hx
    obtain ⟨hs, g1, g2, g3⟩ := head_got hR
    have hsn := step_next hR
    have h1 : s.headed = true := by rw [hs]
    have h2 : s.live = false := by rw [hs]; rfl
    have h3 : s.base = [] := by rw [hs]; rfl
    have h4 : s.batches = [] := by rw [hs]; rfl
    have h5 : s.pending = [] := by rw [hs]; rfl
    have hf := from_step hR
    dsimp only at hx
    have CB := base_any W0 w s h1 h2 h3 hx HF.out.2.1 hsn.2 (by omega) hW0 (fun j hj => (hb.block j (by omega) (by omega)).trans (HF.out.1 j hj)) (HF.out.2.2.1.keep hb.size (hb.block _ (by omega) (by omega))) hTg
    have HX := mkHid (And.intro hb (And.intro hf (And.intro hsn (And.intro h4 h5))))
    clear hb hf hsn hx hR h4 h5 hs
    go_wp2_with fail
    refine CB.mono ?_
    rintro e w2 ⟨hb, hc⟩
    clear CB
    have hb2 := HX.out.1.trans hb
    rcases hc with ⟨p2, s2, rfl, hf2, hl2, q2, hx2⟩ | ⟨p2, s2, rfl, hf2, hl2, q2, hx2⟩ | ⟨p2, q, bl, a, c, rfl, hf2, hL, hq, hx2⟩
    · have hf : file crcN l = (s2, some p2) := HX.out.2.1.trans hf2
      exact ⟨rfl, hb2, ⟨q2, p2, _, _, _, _, _, _, hx2, by rw [hf]; unfold Told; rw [if_neg (by rw [hl2]; decide)]; exact ⟨rfl, rfl, rfl, rfl, rfl, rfl⟩⟩, by rw [hf]⟩
    · have hf : file crcN l = (s2, none) := HX.out.2.1.trans hf2
      exact ⟨rfl, hb2, ⟨q2, p2, _, _, _, _, _, _, hx2, by rw [hf]; unfold Told; rw [if_neg (by rw [hl2]; decide)]; exact ⟨rfl, rfl, rfl, rfl, rfl, rfl⟩⟩, by rw [hf]; exact .inr ⟨_, rfl⟩⟩
    · have w2g : g < w2.heap.size := (Array.getElem?_eq_some_iff.1 hx2).1
      have c1 : w2.cell? ⟨g, 1, none⟩ = some (.int .i64 (q : Int)) := (cell_of_row _ _ _ _ _ _ hx2).trans rfl
      have hS := st_St w2 g 3 #[.int .i64 (fl : Int), .int .i64 (q : Int), .int .i64 (s.gen : Int), .int .i64 (s.first : Int), .slice a bl.length c, .slice none 0 0] rfl (by simp [Value.oneCell']) (rd_there hx2)
      obtain ⟨V, hV⟩ : ∃ V, w2.setCells g 3 [.int .i64 (fl : Int), .int .i64 (q : Int), .int .i64 (s.gen : Int), .int .i64 (s.first : Int), .slice a bl.length c, .slice none 0 0] = V := ⟨_, rfl⟩
      have vg := rd_set (.int .i64 (fl : Int)) (.int .i64 (q : Int)) (.int .i64 (s.gen : Int)) (.int .i64 (s.first : Int)) (.slice a bl.length c) (.slice none 0 0) hx2
      rw [show (#[Value.int .i64 (fl : Int), .int .i64 (q : Int), .int .i64 (s.gen : Int), .int .i64 (s.first : Int), .slice a bl.length c, .slice none 0 0] : Array Value).toList = [Value.int .i64 (fl : Int), .int .i64 (q : Int), .int .i64 (s.gen : Int), .int .i64 (s.first : Int), .slice a bl.length c, .slice none 0 0] from rfl, hV] at hS
      rw [hV] at vg
      have hsw : W.heap.size ≤ w.heap.size := HX.out.1.size
      have vL : Ll W.heap.size V (.slice a bl.length c) bl := (hL.mono hsw).keep (stay_but vg.2 (by omega))
      have vB := hb2.trans vg.2
      have HY := mkHid (And.intro vg.1 (And.intro vB (And.intro vL (And.intro (HX.out.2.1.trans hf2) hq))))
      clear vg vB vL hV hL hx2 hb2 hb hf2 hq
      go_wp2_with fail
      go_loopg [] (l.length - q) (fun k wr => ∃ (bs : List (List (List Nat))) (ab : Option Addr) (cb q' f : Nat), Hid (k = l.length - q' ∧ q' ≤ l.length ∧ bs.length ≤ q' ∧ But g W wr ∧ wr.heap[g]? = some (.cells (rdA (.slice oD l.length cD) q' f (.int .i64 (fl : Int)) (.int .i64 (q' : Int)) (.int .i64 (s.gen : Int)) (.int .i64 (s.first : Int)) (.slice a bl.length c) (.slice ab bs.length cb)) 130 (0, 0)) ∧ Ll W.heap.size wr (.slice a bl.length c) bl ∧ Lb W.heap.size wr (.slice ab bs.length cb) bs ∧ from_ crcN l St.new 0 = from_ crcN l { s with base := bl, live := true, batches := bs, good := q' } q'))
      case atStart =>
        refine ⟨[], none, 0, q, p2, rfl, HY.out.2.2.2.2, by simp, HY.out.2.1, HY.out.1, HY.out.2.2.1, Lb.nil _ _, ?_⟩
        rw [HY.out.2.2.2.1, ← HX.out.2.2.2.1]
      case round =>
        obtain ⟨bs, ab, cb, q', f, HI⟩ := hrel
        obtain ⟨i1, i2, i3, i4, i5, i6, i7, i8⟩ := HI.out
        clear HI c1 hS
        obtain ⟨Z, hZ⟩ : ∃ Z, wr.drew = Z := ⟨_, rfl⟩
        have zb : Below wr.heap.size wr Z := by rw [← hZ]; exact ⟨rfl, rfl, rfl, Nat.le_refl _, fun _ _ => rfl⟩
        have gr : g < wr.heap.size := (Array.getElem?_eq_some_iff.1 i5).1
        have hsr : W.heap.size ≤ wr.heap.size := i4.size
        have d0 : wr.cell? ⟨g, 0, none⟩ = some (.slice oD l.length cD) := (cell_of_row _ _ _ _ _ _ i5).trans rfl
        have d1 : wr.cell? ⟨g, 1, none⟩ = some (.int .i64 (q' : Int)) := (cell_of_row _ _ _ _ _ _ i5).trans rfl
        have zg := (zb.block g gr).trans i5
        have e0 : Z.cell? ⟨g, 0, none⟩ = some (.slice oD l.length cD) := (cell_of_row _ _ _ _ _ _ zg).trans rfl
        have e1 : Z.cell? ⟨g, 1, none⟩ = some (.int .i64 (q' : Int)) := (cell_of_row _ _ _ _ _ _ zg).trans rfl
        have zB := i4.below zb
        have zL := i6.keep (stay_below zb)
        have zM := i7.keep (stay_below zb)
        clear i4 i5 i6 i7
        by_cases hlt : q' < l.length
        · have hlt2 : (q' : Int) < (l.length : Int) := by omega
          have e8 : Z.cell? ⟨g, 8, none⟩ = some (.slice ab bs.length cb) := (cell_of_row _ _ _ _ _ _ zg).trans rfl
          have hbn : s.first + bs.length ≤ 5000000000000000000 := by omega
          have CB := batch_any W0 Z { s with base := bl, live := true, batches := bs, good := q' } h1 rfl HX.out.2.2.2.2 (s.first + bs.length) rfl hbn zg HF.out.2.1 i2 (by omega) hW0 (fun j hj => (zB.block j (by omega) (by omega)).trans (HF.out.1 j hj)) (HF.out.2.2.1.keep zB.size (zB.block _ (by omega) (by omega))) hTg
          rw [show ((s.first + bs.length : Nat) : Int) = (s.first : Int) + (bs.length : Int) by omega] at CB
          have HZ := mkHid (And.intro zB (And.intro zL (And.intro zM (And.intro i8 (And.intro i1 (And.intro i2 i3))))))
          have hzs : Z.heap.size = wr.heap.size := by rw [← hZ]; rfl
          clear zB zL zM i8 zb i1 i2 i3
          go_wp2_with fail
          go_region
          try rw [hZ]
          clear hZ d0 d1 e0 e1
          go_wp2_with fail
          refine CB.mono ?_
          rintro e w3 ⟨hb, hc⟩
          clear CB
          have hb3 := HZ.out.1.trans hb
          have hst4 : Stay W.heap.size (fun t => t = 5 ∨ t = 23) Z w3 := stay_but hb (by omega)
          have zL3 := HZ.out.2.1.keep hst4
          have zM3 := HZ.out.2.2.1.keep (stay_but hb (by omega))
          rcases hc with ⟨p3, pl, rfl, hf3, q3, hx3⟩ | ⟨p3, pl, rfl, hf3, q3, hx3⟩ | ⟨p3, q3, pl, a3, c3, rfl, hf3, hL3, hq3, hq4, hx3⟩
          · have hf : file crcN l = _ := HZ.out.2.2.2.1.trans hf3
            exact ⟨rfl, hb3, ⟨q3, p3, _, _, _, _, _, _, hx3, by rw [hf]; unfold Told; rw [if_pos rfl]; exact ⟨rfl, rfl, rfl, rfl, zL3, zM3⟩⟩, by rw [hf]⟩
          · have hf : file crcN l = _ := HZ.out.2.2.2.1.trans hf3
            exact ⟨rfl, hb3, ⟨q3, p3, _, _, _, _, _, _, hx3, by rw [hf]; unfold Told; rw [if_pos rfl]; exact ⟨rfl, rfl, rfl, rfl, zL3, zM3⟩⟩, by rw [hf]; exact .inr ⟨_, rfl⟩⟩
          · have f8 : w3.cell? ⟨g, 8, none⟩ = some (.slice ab bs.length cb) := (cell_of_row _ _ _ _ _ _ hx3).trans rfl
            have hs3 : W.heap.size ≤ w3.heap.size := hb3.size
            obtain ⟨a4, c4, x4, hr, hl4, hG⟩ := zM3.add hs3 (hL3.mono (by omega)) (by have := HZ.out.2.2.2.2.2.2; have := HZ.out.2.2.2.2.2.1; omega)
            have x4g := (hG.oth g _ _ hx3 (by decide)).trans hx3
            have x4b : But g W x4 := ⟨hG.os.trans hb3.os, hG.tape.trans hb3.tape, hG.output.trans hb3.output, Nat.le_trans hb3.size hG.size, fun k hk hn => (hG.low k hk (by omega)).trans (hb3.block k hk hn)⟩
            have x4l := zL3.keep (hG.stay (fun t ht => by rcases ht with ht | ht <;> (subst ht; decide)))
            have h8 : x4.cell? ⟨g, 8, none⟩ = some (.slice ab bs.length cb) := (cell_of_row _ _ _ _ _ _ x4g).trans rfl
            have h8f : x4.frozen? ⟨g, 8, none⟩ = false := frozen_of_row _ _ _ _ _ x4g
            obtain ⟨Y, hY⟩ : ∃ Y, x4.setCell ⟨g, 8, none⟩ (.slice a4 (bs.length + 1) c4) = Y := ⟨_, rfl⟩
            have yg : Y.heap[g]? = some (.cells (rdA (.slice oD l.length cD) q3 p3 (.int .i64 (fl : Int)) (.int .i64 (q' : Int)) (.int .i64 (s.gen : Int)) (.int .i64 (s.first : Int)) (.slice a bl.length c) (.slice a4 (bs.length + 1) c4)) 130 (0, 0)) := by rw [← hY]; exact (heap_setCell_same x4 g 8 _ _ _ x4g).trans rfl
            have yb : But g x4 Y := by rw [← hY]; exact (But.refl g x4).set 8 _
            have y1 : Y.cell? ⟨g, 1, none⟩ = some (.int .i64 (q3 : Int)) := (cell_of_row _ _ _ _ _ _ yg).trans rfl
            have y4 : Y.cell? ⟨g, 4, none⟩ = some (.int .i64 (q' : Int)) := (cell_of_row _ _ _ _ _ _ yg).trans rfl
            have y4f : Y.frozen? ⟨g, 4, none⟩ = false := frozen_of_row _ _ _ _ _ yg
            obtain ⟨U, hU⟩ : ∃ U, Y.setCell ⟨g, 4, none⟩ (.int .i64 (q3 : Int)) = U := ⟨_, rfl⟩
            have ug : U.heap[g]? = some (.cells (rdA (.slice oD l.length cD) q3 p3 (.int .i64 (fl : Int)) (.int .i64 (q3 : Int)) (.int .i64 (s.gen : Int)) (.int .i64 (s.first : Int)) (.slice a bl.length c) (.slice a4 (bs.length + 1) c4)) 130 (0, 0)) := by rw [← hU]; exact (heap_setCell_same Y g 4 _ _ _ yg).trans rfl
            have ub : But g x4 U := by rw [← hU]; exact yb.set 4 _
            have HU := mkHid (And.intro ug (And.intro (x4b.trans ub) (And.intro (x4l.keep (stay_but ub (by omega))) (And.intro (hl4.keep (stay_but ub (by omega))) (And.intro (HZ.out.2.2.2.1.trans hf3) (And.intro hq3 hq4))))))
            clear ug ub yg yb x4g x4b x4l hl4 hG hx3 hL3 hf3 zL3 zM3 hst4 hb3 hb hq3 hq4
            dsimp only
            go_wp2_with fail
            go_roundg (l.length - q3)
            case measure =>
              have := HU.out.2.2.2.2.2
              have := HZ.out.2.2.2.2.1
              omega
            case rel =>
              have e9 : (bs ++ [pl]).length = bs.length + 1 := by simp
              refine ⟨bs ++ [pl], a4, c4, q3, p3, rfl, HU.out.2.2.2.2.2.2, ?_, HU.out.2.1, ?_, HU.out.2.2.1, ?_, by rw [HX.out.2.2.2.2]; exact HU.out.2.2.2.2.1⟩
              · have := HU.out.2.2.2.2.2.1; have := HZ.out.2.2.2.2.2.2; omega
              · rw [e9]; exact HU.out.1
              · rw [e9]; exact HU.out.2.2.2.1
        · have hlt2 : ¬ (q' : Int) < (l.length : Int) := by omega
          have HZ := mkHid (And.intro zg (And.intro zB (And.intro zL (And.intro zM (i8.trans (from_end (by omega)))))))
          clear zg zB zL zM i8 zb i1 i2 i3
          go_wp2_with fail
          go_region
          try rw [hZ]
          clear hZ d0 d1 e0 e1
          go_wp2_with fail
          first | go_end0 | refine bodyPost_ret (results_none rfl _ _ _) rfl ?_
          have hf : file crcN l = _ := HZ.out.2.2.2.2
          exact ⟨HZ.out.2.1, ⟨q', f, _, _, _, _, _, _, HZ.out.1, by rw [hf]; unfold Told; rw [if_pos rfl]; exact ⟨rfl, rfl, rfl, rfl, HZ.out.2.2.1, HZ.out.2.2.2.1⟩⟩, by rw [hf]; exact .inl rfl⟩
end Go.Proofs.YtfimaflglnemdaaDoor
