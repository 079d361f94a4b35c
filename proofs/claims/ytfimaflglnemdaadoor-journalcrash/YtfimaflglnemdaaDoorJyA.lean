/- JournalSpoilt: what the law wants besides grown. -/
import Derived.Test.YtfimaflglnemdaaDoorJqZ
import Derived.Test.YtfimaflglnemdaaDoorJqH
namespace Go.Proofs.YtfimaflglnemdaaDoor
open Go.RowKit
open JM
set_option maxRecDepth 20000
set_option maxRecDepth 100000 in
set_option maxHeartbeats 3200000 in
theorem sameStory_eq (W : World) {B B' : Nat} {n0 n1 n2 n3 : Int} {t4 t5 u4 u5 : Value} {bl : List (List Nat)} {bt : List (List (List Nat))} (h4 : Ll B W t4 bl) (h5 : Lb B W t5 bt) (k4 : Ll B' W u4 bl) (k5 : Lb B' W u5 bt) (hl4 : bl.length ≤ 1000000000) (hl5 : bt.length ≤ 1000000000) (hl : ∀ x ∈ bt, x.length ≤ 1000000000) :
    Calls Tryd.prog 19 #[.agg #[.int .i64 n0, .int .i64 n1, .int .i64 n2, .int .i64 n3, t4, t5], .agg #[.int .i64 n0, .int .i64 n1, .int .i64 n2, .int .i64 n3, u4, u5]] W fun e w' => e = .returned (.bool true) ∧ Below W.heap.size W w' := by
  obtain ⟨o4, c4, rfl⟩ := h4.sl
  obtain ⟨o5, c5, rfl⟩ := h5.sl
  obtain ⟨p4, d4, rfl⟩ := k4.sl
  obtain ⟨p5, d5, rfl⟩ := k5.sl
  obtain ⟨V, hV⟩ : ∃ V, (W.alloc (.cells #[.int .i64 n0, .int .i64 n1, .int .i64 n2, .int .i64 n3, .slice o4 bl.length c4, .slice o5 bt.length c5] 47)).alloc (.cells #[.int .i64 n0, .int .i64 n1, .int .i64 n2, .int .i64 n3, .slice p4 bl.length d4, .slice p5 bt.length d5] 47) = V := ⟨_, rfl⟩
  have vb : Below W.heap.size W V := by rw [← hV]; exact below2 _ _ _
  have r0 := row2 W (.cells #[.int .i64 n0, .int .i64 n1, .int .i64 n2, .int .i64 n3, .slice o4 bl.length c4, .slice o5 bt.length c5] 47) (.cells #[.int .i64 n0, .int .i64 n1, .int .i64 n2, .int .i64 n3, .slice p4 bl.length d4, .slice p5 bt.length d5] 47)
  have r1 := row2n W (.cells #[.int .i64 n0, .int .i64 n1, .int .i64 n2, .int .i64 n3, .slice o4 bl.length c4, .slice o5 bt.length c5] 47) (.cells #[.int .i64 n0, .int .i64 n1, .int .i64 n2, .int .i64 n3, .slice p4 bl.length d4, .slice p5 bt.length d5] 47)
  rw [hV] at r0 r1
  have a0 : V.cell? ⟨W.heap.size, 0, none⟩ = some (.int .i64 n0) := (cell_of_row _ _ _ _ _ _ r0).trans rfl
  have a1 : V.cell? ⟨W.heap.size, 1, none⟩ = some (.int .i64 n1) := (cell_of_row _ _ _ _ _ _ r0).trans rfl
  have a2 : V.cell? ⟨W.heap.size, 2, none⟩ = some (.int .i64 n2) := (cell_of_row _ _ _ _ _ _ r0).trans rfl
  have a3 : V.cell? ⟨W.heap.size, 3, none⟩ = some (.int .i64 n3) := (cell_of_row _ _ _ _ _ _ r0).trans rfl
  have a4 : V.cell? ⟨W.heap.size, 4, none⟩ = some (.slice o4 bl.length c4) := (cell_of_row _ _ _ _ _ _ r0).trans rfl
  have a5 : V.cell? ⟨W.heap.size, 5, none⟩ = some (.slice o5 bt.length c5) := (cell_of_row _ _ _ _ _ _ r0).trans rfl
  have e0 : V.cell? ⟨W.heap.size + 1, 0, none⟩ = some (.int .i64 n0) := (cell_of_row _ _ _ _ _ _ r1).trans rfl
  have e1 : V.cell? ⟨W.heap.size + 1, 1, none⟩ = some (.int .i64 n1) := (cell_of_row _ _ _ _ _ _ r1).trans rfl
  have e2 : V.cell? ⟨W.heap.size + 1, 2, none⟩ = some (.int .i64 n2) := (cell_of_row _ _ _ _ _ _ r1).trans rfl
  have e3 : V.cell? ⟨W.heap.size + 1, 3, none⟩ = some (.int .i64 n3) := (cell_of_row _ _ _ _ _ _ r1).trans rfl
  have e4 : V.cell? ⟨W.heap.size + 1, 4, none⟩ = some (.slice p4 bl.length d4) := (cell_of_row _ _ _ _ _ _ r1).trans rfl
  have e5 : V.cell? ⟨W.heap.size + 1, 5, none⟩ = some (.slice p5 bt.length d5) := (cell_of_row _ _ _ _ _ _ r1).trans rfl
  have v4 := h4.keep (stay_below vb)
  have v5 := h5.keep (stay_below vb)
  have x4 := k4.keep (stay_below vb)
  have x5 := k5.keep (stay_below vb)
  have CB := sameLists_eq V v4 x4 hl4
  have HV := mkHid (And.intro v5 (And.intro x5 (And.intro vb hl)))
  clear h4 h5 k4 k5 r0 r1 v4 v5 x4 x5 vb hl
  go_enter Tryd.func19, Tryd.ntmps19
  go_wp2_with fail
  refine CB.mono ?_
  rintro e w ⟨rfl, m1, hm1⟩
  dsimp only
  clear CB hV
  subst hm1
  go_wp2_with fail
  go_loopw [5] (fun iv wr => ∃ i : Nat, iv = .int .i64 (i : Int) ∧ i ≤ bt.length ∧ Hid (∃ m, wr = V.drewN m)) (fun iv _ => bt.length - (intOf iv).toNat)
  case atStart => exact ⟨0, rfl, Nat.zero_le _, m1, rfl⟩
  case round =>
    obtain ⟨i, rfl, hi, HI⟩ := hrel
    obtain ⟨m0, hm0⟩ := HI.out
    have wb : Below V.heap.size V wr := by rw [hm0]; exact below_drewN (Below.refl _ _) _
    have b5 := cell_below wb a5
    have f5 := cell_below wb e5
    by_cases hlt : i < bt.length
    · have hlt2 : (i : Int) < (bt.length : Int) := by omega
      have hi0 : (0 : Int) ≤ (i : Int) := by omega
      obtain ⟨ga, c, x, q1, c1, o1⟩ := HV.out.1.get hlt
      obtain ⟨gb, c', y, q2, c2, o2⟩ := HV.out.2.1.get hlt
      injection q1 with q1 el ec
      injection q2 with q2 el2 ec2
      clear el el2
      subst q1 q2 ec ec2
      have CL := mkHid (fun m => sameLists_eq (wr.drewN m) (o1.keep (stay_below (below_drewN wb m))) (o2.keep (stay_below (below_drewN wb m))) (HV.out.2.2.2 _ (List.getElem_mem hlt)))
      have g1 := cell_below wb c1
      have g2 := cell_below wb c2
      obtain ⟨ox, cx, rfl⟩ := o1.sl
      obtain ⟨oy, cy, rfl⟩ := o2.sl
      obtain ⟨n, hn⟩ : ∃ n, bt[i].length = n := ⟨_, rfl⟩
      rw [hn] at CL g1 g2
      have HM := mkHid hm0
      clear o1 o2 hn c1 c2 wb hm0
      go_wp2_with fail
      go_quiet ((go_at_call 15; exact Calls.quiet_of (CL.out _)))
      go_wp2_with fail
      exact ⟨⟨i + 1, by simp, by omega, by rw [HM.out, World.drewN_drewN]; exact ⟨_, rfl⟩⟩, by simp only [intOf]; omega⟩
    · have hlt2 : ¬ (i : Int) < (bt.length : Int) := by omega
      have HB := mkHid (HV.out.2.2.1.trans (wb.mono HV.out.2.2.1.size))
      clear hm0
      go_wp2_with fail
      go_ret
      exact ⟨rfl, HB.out⟩
theorem replay_err (W : World) {v0 v1 : Value} {l0 l1 : List Nat} (h0 : Bl W v0 l0) (h1 : Bl W v1 l1) (hT : Tc W) {c f p : Nat} (hr : rep l0 l1 = .err c f p) :
    Calls Tryd.prog 28 #[.agg #[v0, v1]] W fun e w' => e = .returned (.tuple #[.agg #[.int .i64 0, .int .i64 0, .int .i64 0, .int .i64 0, .slice none 0 0, .slice none 0 0], .int .i64 (c : Int), .int .i64 (f : Int), .int .i64 (p : Int)]) ∧ Below W.heap.size W w' := by
  obtain ⟨o0, c0, rfl⟩ := h0.form
  obtain ⟨o1, c1, rfl⟩ := h1.form
  refine (replay_any W h0 h1 hT).mono ?_
  rw [hr]
  rintro e w' ⟨hb, t0, t1, t2, t3, t4, t5, c', f', p', rfl, h1, rfl, rfl, rfl⟩
  rw [h1]
  exact ⟨rfl, hb⟩
theorem bs_set (l : List Nat) (q v : Nat) : (bs l).toArray.setIfInBounds q (.int .u8 (v : Int)) = (bs (l.set q v)).toArray := by
  simp [bs, List.map_set]
namespace Dev
attribute [local go_sem ↓] toStSt toLdSt in
set_option maxRecDepth 100000 in
set_option maxHeartbeats 1600000 in
theorem Open_err {i0 : Inhabited HoleT} {lo v lim : Nat} {W : World} {lv : Value} {f : Array Value} {ms : List (Array Value)} {sp : List Sp} {x : Sp} {c fi p : Nat} (h : @Dv i0 lo W v lv f ms sp) (hx : sp[ms.length]? = some x) (hn : ms.length + 2 < 1000000) (hT : Tc W) (hlim : lim ≤ 67108864) (hlim2 : 64 ≤ lim) (b0 : Byt x.1.1) (b1 : Byt x.2.1) (l0 : x.1.1.length ≤ 67108864) (l1 : x.2.1.length ≤ 67108864) (hr : rep x.1.1 x.2.1 = .err c fi p) (hc : ¬ c = 0) :
    Calls Tryd.prog 13 #[.pointer (some ⟨v, 0, none⟩), .int .i64 (lim : Int)] W fun e w' => e = .returned (.tuple #[.pointer none, .int .i64 (c : Int), .int .i64 (fi : Int), .int .i64 (p : Int)]) ∧ Below W.heap.size W w' := by
  have C1 := @Disk_any i0 _ _ _ _ _ _ _ h _ hx (by omega)
  have q1 : ¬ (lim : Int) < 64 := by omega
  have q2 : ¬ (67108864 : Int) < (lim : Int) := by omega
  have q3 : ¬ (c : Int) = 0 := by omega
  have HH := mkHid (And.intro hT (And.intro b0 (And.intro b1 (And.intro l0 (And.intro l1 hr)))))
  replace C1 := mkHid C1
  clear h hx hn hT b0 b1 l0 l1 hr
  go_enter Tryd.func13, Tryd.ntmps13
  go_wp2_with fail
  refine C1.out.mono ?_
  rintro e w1 ⟨cc, rfl, g0, g1, rfl, r0, r1, p0, p1, p2, bD⟩
  clear C1
  have T1 := HH.out.1.below bD HH.out.1.sz
  have C2 := replay_err w1 (bl_row r0 HH.out.2.1 (by have := HH.out.2.2.2.1; unfold maxLen; omega)) (bl_row r1 HH.out.2.2.1 (by have := HH.out.2.2.2.2.1; unfold maxLen; omega)) T1 HH.out.2.2.2.2.2
  replace C2 := mkHid C2
  have HB := mkHid bD
  clear r0 r1 p0 p1 p2 bD T1
  unfold dkA
  go_wp2_with fail
  refine C2.out.mono ?_
  rintro e w2 ⟨rfl, b2⟩
  clear C2
  have s1 := st_Sn w2 #[.int .i64 0, .int .i64 0, .int .i64 0, .int .i64 0, .slice none 0 0, .slice none 0 0] rfl (by simp [Value.oneCell'])
  have bE : Below w2.heap.size w2 (w2.alloc (.cells #[.int .i64 0, .int .i64 0, .int .i64 0, .int .i64 0, .slice none 0 0, .slice none 0 0] 47)) := (Below.refl _ w2).alloc (Nat.le_refl _) _
  have b0E := mkHid (HB.out.trans ((b2.trans (bE.mono b2.size)).mono HB.out.size))
  clear bE b2
  go_wp2_with fail
  refine bodyPost_ret (results_tmp4 rfl _ _ _) rfl ?_
  exact ⟨rfl, b0E.out⟩
theorem rep_turned {live gen first q v : Nat} {base : List (List Nat)} {bs : List (List (List Nat))} (h : Jq live gen first base bs) (hq : q < (journalw gen first base bs).length) (hv : v < 256) (hne : v ≠ (journalw gen first base bs).getD q 0) {l0 l1 : List Nat} (e : (live = 0 ∧ l0 = (journalw gen first base bs).set q v ∧ l1 = []) ∨ (live = 1 ∧ l0 = [] ∧ l1 = (journalw gen first base bs).set q v)) :
    ∃ p, rep l0 l1 = .err (errOf p) live p ∧ p ≤ q := by
  have hlen := h.len
  have g1 := h.g1
  have g2 := h.g2
  have f1 := h.f1
  have f2 := h.f2
  obtain ⟨s, p, hs, hp⟩ := file_turned hq hv hne h.g1 (by omega) h.f1 (by omega) (by omega) h.gb h.gs
  refine ⟨p, ?_, hp⟩
  rcases e with ⟨rfl, rfl, rfl⟩ | ⟨rfl, rfl, rfl⟩
  · exact rep_bad0 (by rw [List.length_set]; omega) (by rw [hs])
  · exact rep_bad1 (by decide) (by rw [file_nil]) (by rw [List.length_set]; omega) (by rw [hs])
/-- What the law has at hand once a byte is turned: the disk at a, the story at b. -/
structure Mt (W : World) (a b live : Nat) (v0 v1 : Value) (l0 l1 : List Nat) (w : World) : Prop where
  ra : w.heap[a]? = some (.cells #[v0, v1] 26 (0, 0))
  rb : w.cell? ⟨b, 0, none⟩ = some (.int .i64 (live : Int))
  h0 : Bl w v0 l0
  h1 : Bl w v1 l1
  bel : Below W.heap.size W w
theorem mt_of {W w1 : World} {live gen first g0 g1 : Nat} {base : List (List Nat)} {bs : List (List (List Nat))} {x : Sp} {t4 t5 : Value} (hq : Jq live gen first base bs) (fx : (fl x live).1 = journalw gen first base bs) (fo : (fl x (1 - live)).1 = []) (hD : DkP W x (dkA g0 x.1.1.length g1 x.2.1.length) w1) {w2 : World} (hw2 : (w1.alloc (.cells (dkA g0 x.1.1.length g1 x.2.1.length) 26)).alloc (.cells (styA live (journalw gen first base bs).length gen first t4 t5) 47) = w2) :
    ∃ gl, w2.cell? ⟨w1.heap.size, live, none⟩ = some (.slice (some ⟨gl, 0, none⟩) (journalw gen first base bs).length (journalw gen first base bs).length) ∧ w2.heap[gl]? = some (.cells (Go.Proofs.YtfimaflglnemdaaDoor.bs (journalw gen first base bs)).toArray 5 (0, 0)) ∧ w2.heap[w1.heap.size + 1]? = some (.cells (styA live (journalw gen first base bs).length gen first t4 t5) 47 (0, 0)) ∧ Below W.heap.size W w2 ∧
      ∀ (q v : Nat), q < (journalw gen first base bs).length → v < 256 → ∃ v0 v1 l0 l1, Mt W w1.heap.size (w1.heap.size + 1) live v0 v1 l0 l1 (w2.drew.setCell ⟨gl, q, none⟩ (.int .u8 (v : Int))) ∧ ((live = 0 ∧ l0 = (journalw gen first base bs).set q v ∧ l1 = []) ∨ (live = 1 ∧ l0 = [] ∧ l1 = (journalw gen first base bs).set q v)) := by
  obtain ⟨g0', g1', e, d0, d1, z0, z1, d01, b1⟩ := hD
  obtain ⟨rfl, rfl⟩ := dkA_inj e
  have bW2 : Below w1.heap.size w1 w2 := by rw [← hw2]; exact below2 _ _ _
  have ra : w2.heap[w1.heap.size]? = some (.cells (dkA g0 x.1.1.length g1 x.2.1.length) 26 (0, 0)) := by rw [← hw2]; exact row2 _ _ _
  have rb : w2.heap[w1.heap.size + 1]? = some (.cells (styA live (journalw gen first base bs).length gen first t4 t5) 47 (0, 0)) := by rw [← hw2]; exact row2n _ _ _
  have d0b := (bW2.block _ (Array.getElem?_eq_some_iff.1 d0).1).trans d0
  have d1b := (bW2.block _ (Array.getElem?_eq_some_iff.1 d1).1).trans d1
  have l0 := (Array.getElem?_eq_some_iff.1 d0).1
  have l1 := (Array.getElem?_eq_some_iff.1 d1).1
  have bel2 : Below W.heap.size W w2 := b1.trans (bW2.mono b1.size)
  have hby := byt_journalw (gen := gen) (first := first) hq.gb hq.gs
  have hle := hq.len
  have hbs : ∀ (q v : Nat), v < 256 → Byt ((journalw gen first base bs).set q v) := fun q v hv y hy => by
    rcases List.mem_or_eq_of_mem_set hy with h | h
    · exact hby y h
    · omega
  have hl := hq.lv
  obtain rfl | rfl : live = 0 ∨ live = 1 := by omega
  · have fx : x.1.1 = journalw gen first base bs := fx
    have fo : x.2.1 = [] := fo
    have dd := d0b
    rw [fx] at dd
    refine ⟨g0, ?_, dd, rb, bel2, fun q v hql hv => ?_⟩
    · rw [cell_of_row _ _ _ _ _ _ ra, ← fx]
      rfl
    · have dd3 : w2.drew.heap[g0]? = some (.cells (Go.Proofs.YtfimaflglnemdaaDoor.bs (journalw gen first base bs)).toArray 5 (0, 0)) := dd
      rw [setCell_eq_setRow w2.drew g0 q _ _ _ _ dd3, bs_set]
      refine ⟨.slice (some ⟨g0, 0, none⟩) ((journalw gen first base bs).set q v).length ((journalw gen first base bs).set q v).length, .slice (some ⟨g1, 0, none⟩) x.2.1.length x.2.1.length, (journalw gen first base bs).set q v, [], ⟨?_, ?_, ?_, ?_, ?_⟩, .inl ⟨rfl, rfl, rfl⟩⟩
      · rw [List.length_set, ← fx]
        exact (setRow_other _ _ _ _ (by omega)).trans ra
      · exact (World.cell?_of_block (w := w2) (a := ⟨w1.heap.size + 1, 0, none⟩) (setRow_other _ _ _ _ (by show w1.heap.size + 1 ≠ g0; omega))).trans ((cell_of_row _ _ _ _ _ _ rb).trans rfl)
      · exact bl_row (setRow_heap _ _ _ _ _ _ dd3) (hbs q v hv) (by rw [List.length_set]; unfold maxLen; omega)
      · rw [fo]
        rw [fo] at d1b
        exact bl_row (l := []) ((setRow_other _ _ _ _ (by omega)).trans d1b) (fun y hy => by cases hy) (Nat.zero_le _)
      · exact below_setRow (bel2.trans ((below_drew w2).mono bel2.size)) z0 _
  · have fx : x.2.1 = journalw gen first base bs := fx
    have fo : x.1.1 = [] := fo
    have dd := d1b
    rw [fx] at dd
    refine ⟨g1, ?_, dd, rb, bel2, fun q v hql hv => ?_⟩
    · rw [cell_of_row _ _ _ _ _ _ ra, ← fx]
      rfl
    · have dd3 : w2.drew.heap[g1]? = some (.cells (Go.Proofs.YtfimaflglnemdaaDoor.bs (journalw gen first base bs)).toArray 5 (0, 0)) := dd
      rw [setCell_eq_setRow w2.drew g1 q _ _ _ _ dd3, bs_set]
      refine ⟨.slice (some ⟨g0, 0, none⟩) x.1.1.length x.1.1.length, .slice (some ⟨g1, 0, none⟩) ((journalw gen first base bs).set q v).length ((journalw gen first base bs).set q v).length, [], (journalw gen first base bs).set q v, ⟨?_, ?_, ?_, ?_, ?_⟩, .inr ⟨rfl, rfl, rfl⟩⟩
      · rw [List.length_set, ← fx]
        exact (setRow_other _ _ _ _ (by omega)).trans ra
      · exact (World.cell?_of_block (w := w2) (a := ⟨w1.heap.size + 1, 0, none⟩) (setRow_other _ _ _ _ (by show w1.heap.size + 1 ≠ g1; omega))).trans ((cell_of_row _ _ _ _ _ _ rb).trans rfl)
      · rw [fo]
        rw [fo] at d0b
        exact bl_row (l := []) ((setRow_other _ _ _ _ (by omega)).trans d0b) (fun y hy => by cases hy) (Nat.zero_le _)
      · exact bl_row (setRow_heap _ _ _ _ _ _ dd3) (hbs q v hv) (by rw [List.length_set]; unfold maxLen; omega)
      · exact below_setRow (bel2.trans ((below_drew w2).mono bel2.size)) z1 _
end Dev
end Go.Proofs.YtfimaflglnemdaaDoor
