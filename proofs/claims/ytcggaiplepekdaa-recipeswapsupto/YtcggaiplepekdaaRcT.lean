/- Recipes: Blank and Put of the code. -/
import Derived.Test.YtcggaiplepekdaaRcS
import Derived.Deep.RegionWith
import Derived.Deep.DrawnRows
import Derived.Laws.MakeOwn
namespace Go.Proofs.Ytcggaiplepekdaa
open Go.RowKit
theorem results_R2 {fn : Func} {p u : Tmp} (h : fn.results = #[.cell p 27, .tmp u]) (tmps : Array Value) (w : World) (g : Nat) (C : Array Value) (hC : C.size = 7)
    (hp : tmps.getD p undef = .pointer (some ⟨g, 0, none⟩)) (hg : w.heap[g]? = some (.cells C 27 (0, 0))) :
    (results fn tmps).run Try.prog w = .ok (.tuple #[.agg C, tmps.getD u undef]) w := by
  have hp' : tmps[p]?.getD undef = .pointer (some ⟨g, 0, none⟩) := by simpa using hp
  simp [results, h, hp', asAddr, run_loadVar_row w g 27 27 C (0, 0) _ hg Try.underlying27 rfl (by rw [sizeR, hC])]
def EMP : S := ⟨#[]⟩
theorem flat_rep (n : Nat) : flat (List.replicate n (sR EMP)) = List.replicate n (.string EMP) := by
  induction n with
  | zero => rfl
  | succ n ih =>
    rw [List.replicate_succ, List.replicate_succ, ← ih]
    rfl
theorem run_mkS (w : World) (n : Nat) (hn : n ≤ 10000000) : ∃ w', (Instr.makeSlice 24 (.int .i64 (n : Int)) (.int .i64 (n : Int))).run Try.prog w = .ok (.slice (some ⟨w.heap.size, 0, none⟩) n n) w' ∧ Ls w' (.slice (some ⟨w.heap.size, 0, none⟩) n n) 1 ((List.replicate n EMP).map sR) ∧ Below w.heap.size w w' := by
  obtain ⟨i0, hi0, hz0, hz1, hz2⟩ := info_parts infoS
  obtain ⟨w', h1, h2, h3⟩ := run_make_full (P := Try.prog) w w.heap.size 24 9 i0 _ 1 Try.underlying24 hi0 hz0 hz1 .i64 .i64 n (by rw [hz2]; omega) (by unfold maxLen; omega) (Nat.le_refl _)
  have e : (madeCells (Value.cells (.string EMP)) (n * 1)).toList = List.replicate n (.string EMP) := by
    apply List.ext_getElem?
    intro j
    simp only [madeCells, Nat.mul_one, List.getElem?_replicate]
    by_cases q : j < n
    · simp [q, Value.cells, Nat.mod_one]
    · simp [q]
  refine ⟨w', h1, ?_, ⟨h3.os, h3.tape, h3.output, h3.size, fun j hj => h3.block j hj (fun q => by cases q)⟩⟩
  have ho : Ol w.heap.size 9 1 w' (.slice (some ⟨w.heap.size, 0, none⟩) n n) ((List.replicate n EMP).map sR) := by
    refine ⟨?_, rs_s _⟩
    rw [List.map_replicate, flat_rep, List.length_replicate, ← e]
    exact h2
  exact ho.ls
/-- What a function that gives a recipe back leaves. -/
def GiR (W : World) (Q : Rcp) (en : Ending) (w' : World) : Prop := ∃ o' n' s' a' e' us, en = .returned (.agg (rV o' n' s' Q.sys Q.bld a' e')) ∧ Tw W.heap.size w' o' n' s' a' e' us Q ∧ Below W.heap.size W w'
def GiE (W : World) (Q : Rcp) (E : Int) (en : Ending) (w' : World) : Prop := ∃ o' n' s' a' e' us, en = .returned (.tuple #[.agg (rV o' n' s' Q.sys Q.bld a' e'), .int .i64 E]) ∧ Tw W.heap.size w' o' n' s' a' e' us Q ∧ Below W.heap.size W w'
def ZER : Rcp := ⟨[], [], [], EMP, EMP, [], []⟩
theorem tw_zer (base : Nat) (W : World) : Tw base W (.slice none 0 0) (.slice none 0 0) (.slice none 0 0) (.slice none 0 0) (.slice none 0 0) [] ZER := ⟨ol_nil _ _ _ _, ol_nil _ _ _ _, ol_nil _ _ _ _, ol_nil _ _ _ _, ol_nil _ _ _ _, rfl, fun i x u h => by simp [ZER] at h⟩
/-- The answer is laid into its place. -/
theorem Tw.give {W B w : World} {o n s a e : Value} {us : List Value} {Q : Rcp} {c : Array Value} (hb : Bx W c B) (h : Tw B.heap.size w o n s a e us Q) (hw : Below B.heap.size B w) {C : Array Value} (hC : C.size = 7) (h1 : C.all (·.oneCell') = true) :
    (stR (.pointer (some ⟨W.heap.size + 1, 0, none⟩)) (.agg C)).run Try.prog w = .ok () (w.setRow (W.heap.size + 1) C) ∧ Tw W.heap.size (w.setRow (W.heap.size + 1) C) o n s a e us Q ∧ Below W.heap.size W (w.setRow (W.heap.size + 1) C) ∧ (w.setRow (W.heap.size + 1) C).heap[W.heap.size + 1]? = some (.cells C 27 (0, 0)) := by
  have bx := hb.below hw
  exact ⟨st_R w (W.heap.size + 1) _ C rfl hC h1 bx.r1, (h.mono hb.bel.size).rows (fun g D t hD ht => setRow_other _ _ _ _ (tag_ne hD bx.r1 ht)), below_setRow bx.bel (by omega) _, setRow_heap _ _ _ _ _ _ bx.r1⟩
theorem Tw.one {base : Nat} {w : World} {o n s a e : Value} {us : List Value} {Q : Rcp} (tw : Tw base w o n s a e us Q) (sys bld : S) : (rV o n s sys bld a e).all (·.oneCell') = true := by
  obtain ⟨_, _, q1, -⟩ := tw.fo.form
  obtain ⟨_, _, q2, -⟩ := tw.fn.form
  obtain ⟨_, _, q3, -⟩ := tw.fs.form
  obtain ⟨_, _, q4, -⟩ := tw.fa.form
  obtain ⟨_, _, q5, -⟩ := tw.fe.form
  rw [q1, q2, q3, q4, q5]
  simp [rV, Value.oneCell']
/-- The answer is laid, and will be given back. -/
structure Gv (W : World) (Q : Rcp) (o n s a e : Value) (us : List Value) (Z : World) : Prop where
  tw : Tw W.heap.size Z o n s a e us Q
  bel : Below W.heap.size W Z
  row : Z.heap[W.heap.size + 1]? = some (.cells (rV o n s Q.sys Q.bld a e) 27 (0, 0))
theorem Tw.gv {W B w : World} {o n s a e : Value} {us : List Value} {Q : Rcp} {c : Array Value} (hb : Bx W c B) (h : Tw B.heap.size w o n s a e us Q) (hw : Below B.heap.size B w) :
    ∃ Z, (stR (.pointer (some ⟨W.heap.size + 1, 0, none⟩)) (.agg (rV o n s Q.sys Q.bld a e))).run Try.prog w = .ok () Z ∧ Hid (Gv W Q o n s a e us Z) := by
  obtain ⟨s1, s2, s3, s4⟩ := Tw.give hb h hw (C := rV o n s Q.sys Q.bld a e) rfl (h.one _ _)
  exact ⟨_, s1, s2, s3, s4⟩
section
attribute [local go_sem ↓] toLdR toStR
set_option maxRecDepth 100000 in
set_option maxHeartbeats 3200000 in
theorem put_any (W : World) (o n s a e : Value) (R : Rcp) (hs : Sm R) (h : Rc W o n s a e R) (nzo : ∀ x ∈ R.o, x.1.size ≤ maxLen) (nze : ∀ p ∈ R.e, p.1.size ≤ maxLen) (lv : Value) (ls : List S) (hl : Ls W lv 1 (ls.map sR)) : Calls Try.prog 13 #[.agg (rV o n s R.sys R.bld a e), lv] W (GiE W (if ls.length = R.o.length then rel R ls else ZER) (if ls.length = R.o.length then 0 else 2)) := by
  obtain ⟨B0, hB0⟩ : ∃ B0, (W.alloc (.cells (rV o n s R.sys R.bld a e) 27)).alloc (.cells zR 27) = B0 := ⟨_, rfl⟩
  have x0 : Bx W (rV o n s R.sys R.bld a e) B0 := hB0 ▸ bx_new W _
  have l0 := ld_R B0 W.heap.size _ rfl x0.r0
  obtain ⟨ol, cl, hlv⟩ := hl.form
  obtain ⟨ll, hll2⟩ : ∃ k, ls.length = k := ⟨_, rfl⟩
  rw [List.length_map, hll2] at hlv
  subst hlv
  obtain ⟨xo, co, fo⟩ := h.o.form
  obtain ⟨lo, hlo⟩ : ∃ k, R.o.length = k := ⟨_, rfl⟩
  rw [List.length_map, hlo] at fo
  subst fo
  by_cases hq : ls.length = R.o.length
  · rw [if_pos hq, if_pos hq]
    have HC : Hid _ := relab_any B0 (.slice xo lo co) n s a e R hs (h.below x0.bel) nzo nze (.slice ol ll cl) ls (hl.below x0.bel) hq
    have el : (ll : Int) = (lo : Int) := by omega
    have HB : Hid (Bx W (rV (.slice xo lo co) n s R.sys R.bld a e) B0) := x0
    have HB0 : Hid (_ = B0) := hB0
    rw [← hB0] at l0
    unfold rV zR at HB0 l0
    unfold rV
    clear h hs nzo nze hl hll2 hlo x0 hB0 hq
    go_enter Try.func13, Try.ntmps13
    go_wp2_with fail
    rw [HB0.out]
    refine Calls.mono HC.out ?_
    rintro en w1 ⟨o', n', s', a', e', us, rfl, tw, bw⟩
    obtain ⟨s1, s2, s3, s4⟩ := Tw.give HB.out tw bw (C := rV o' n' s' R.sys R.bld a' e') rfl (by
      obtain ⟨_, _, q1, -⟩ := tw.fo.form
      obtain ⟨_, _, q2, -⟩ := tw.fn.form
      obtain ⟨_, _, q3, -⟩ := tw.fs.form
      obtain ⟨_, _, q4, -⟩ := tw.fa.form
      obtain ⟨_, _, q5, -⟩ := tw.fe.form
      rw [q1, q2, q3, q4, q5]
      simp [rV, Value.oneCell'])
    obtain ⟨Z, hZ⟩ : ∃ Z, w1.setRow (W.heap.size + 1) (rV o' n' s' R.sys R.bld a' e') = Z := ⟨_, rfl⟩
    rw [hZ] at s1 s2 s3 s4
    have HF : Hid (_ ∧ _ ∧ _) := ⟨s2, s3, s4⟩
    unfold rV at s1
    unfold rV
    clear tw bw hZ s2 s3 s4 HC
    go_wp2_with fail
    refine bodyPost_ret (results_R2 rfl _ _ (W.heap.size + 1) _ rfl rfl HF.out.2.2) rfl ?_
    exact ⟨_, _, _, _, _, us, rfl, HF.out.1, HF.out.2.1⟩
  · rw [if_neg hq, if_neg hq]
    have el : ¬ (ll : Int) = (lo : Int) := by omega
    have HB : Hid (Bx W (rV (.slice xo lo co) n s R.sys R.bld a e) B0) := x0
    have HB0 : Hid (_ = B0) := hB0
    obtain ⟨s1, s2, s3, s4⟩ := Tw.give x0 (tw_zer B0.heap.size B0) (Below.refl _ _) (C := zR) rfl (by simp [zR, Value.oneCell'])
    obtain ⟨Z, hZ⟩ : ∃ Z, B0.setRow (W.heap.size + 1) zR = Z := ⟨_, rfl⟩
    rw [hZ] at s1 s2 s3 s4
    have HF : Hid (_ ∧ _ ∧ _) := ⟨s2, s3, s4⟩
    rw [← hB0] at l0 s1
    unfold rV zR at HB0 l0 s1
    unfold rV
    clear h hs nzo nze hl hll2 hlo x0 hB0 hq hZ s2 s3 s4
    go_enter Try.func13, Try.ntmps13
    go_wp2_with fail
    refine bodyPost_ret (results_R2 rfl _ _ (W.heap.size + 1) _ rfl rfl HF.out.2.2) rfl ?_
    exact ⟨_, _, _, _, _, [], rfl, HF.out.1, HF.out.2.1⟩
set_option maxRecDepth 100000 in
set_option maxHeartbeats 3200000 in
theorem blank_any (W : World) (o n s a e : Value) (R : Rcp) (hs : Sm R) (h : Rc W o n s a e R) (nzo : ∀ x ∈ R.o, x.1.size ≤ maxLen) (nze : ∀ p ∈ R.e, p.1.size ≤ maxLen) : Calls Try.prog 10 #[.agg (rV o n s R.sys R.bld a e)] W (GiR W (rel R (List.replicate R.o.length EMP))) := by
  obtain ⟨B0, hB0⟩ : ∃ B0, (W.alloc (.cells (rV o n s R.sys R.bld a e) 27)).alloc (.cells zR 27) = B0 := ⟨_, rfl⟩
  have x0 : Bx W (rV o n s R.sys R.bld a e) B0 := hB0 ▸ bx_new W _
  obtain ⟨E, hE⟩ : ∃ E, B0.drew = E := ⟨_, rfl⟩
  have xE : Bx W (rV o n s R.sys R.bld a e) E := hE ▸ x0.drew
  obtain ⟨M, mr, ml, mb⟩ := run_mkS E R.o.length hs.1
  have xM := xE.below mb
  have l1 := ld_R E W.heap.size _ rfl xE.r0
  have l2 := ld_R M W.heap.size _ rfl xM.r0
  have HC : Hid _ := relab_any M o n s a e R hs (h.below xM.bel) nzo nze _ _ ml (by simp)
  obtain ⟨xo, co, fo⟩ := h.o.form
  obtain ⟨lo, hlo⟩ : ∃ k, R.o.length = k := ⟨_, rfl⟩
  rw [List.length_map, hlo] at fo
  subst fo
  rw [hlo] at mr HC ⊢
  have c0 : E.cell? ⟨W.heap.size, 0, none⟩ = some (.slice xo lo co) := xE.cel (k := 0) rfl
  have HB : Hid (Bx W (rV (.slice xo lo co) n s R.sys R.bld a e) M) := xM
  have HB0 : Hid (_ = B0) := hB0
  unfold rV zR at HB0
  unfold rV at l1 l2
  unfold rV
  clear h hs nzo nze hlo x0 hB0 xE xM ml mb
  go_enter Try.func10, Try.ntmps10
  go_wp2_with fail
  rw [HB0.out]
  go_region_with (go_at_call 20; refine Calls.mono HC.out ?_; rintro en w1 ⟨o', n', s', a', e', us, rfl, tw, bw⟩; obtain ⟨Z, s1, HF⟩ := Tw.gv HB.out tw bw; unfold rV at s1; unfold rV; dsimp only [rel] at s1; clear tw bw)
  all_goals go_wp2_with fail
  all_goals refine bodyPost_ret (results_R rfl _ _ (W.heap.size + 1) _ rfl rfl HF.out.row) rfl ?_
  all_goals exact ⟨_, _, _, _, _, us, rfl, HF.out.tw, HF.out.bel⟩
end
end Go.Proofs.Ytcggaiplepekdaa
