/- Recipes: relabelled. -/
import Derived.Test.YtcggaiplepekdaaRcR
namespace Go.Proofs.Ytcggaiplepekdaa
open Go.RowKit
/-- A recipe of one's own in a box, a map beside it, the answer's place. -/
structure Rb (W : World) (rb mb : Nat) (C : Array Value) (o n s a e : Value) (us : List Value) (f : S → Option Nat) (k : Nat) (R : Rcp) (wr : World) : Prop where
  bel : Below W.heap.size W wr
  r1 : wr.heap[W.heap.size + 1]? = some (.cells zR 27 (0, 0))
  rbx : wr.heap[rb]? = some (.cells C 27 (0, 0))
  lb : W.heap.size + 1 < rb
  lm : W.heap.size ≤ mb
  tw : Tw W.heap.size wr o n s a e us R
  mp : Mp wr mb k f
theorem Rb.below {W : World} {rb mb : Nat} {C : Array Value} {o n s a e : Value} {us : List Value} {f : S → Option Nat} {k : Nat} {R : Rcp} {wr w' : World} (h : Rb W rb mb C o n s a e us f k R wr) (hb : Below wr.heap.size wr w') : Rb W rb mb C o n s a e us f k R w' :=
  ⟨h.bel.trans (hb.mono h.bel.size), (hb.block _ (Array.getElem?_eq_some_iff.1 h.r1).1).trans h.r1, (hb.block _ (Array.getElem?_eq_some_iff.1 h.rbx).1).trans h.rbx, h.lb, h.lm, h.tw.below hb, h.mp.keep (hb.block _ h.mp.lt)⟩
theorem Rb.setO {W : World} {rb mb : Nat} {C : Array Value} {g m c : Nat} {n s a e : Value} {us : List Value} {f : S → Option Nat} {k : Nat} {R : Rcp} {wr : World} (h : Rb W rb mb C (.slice (some ⟨g, 0, none⟩) m c) n s a e us f k R wr) {i : Nat} {x : Out} (l : S) (hx : R.o[i]? = some x) : Rb W rb mb C (.slice (some ⟨g, 0, none⟩) m c) n s a e us f k { R with o := R.o.set i (x.1, l, x.2.2) } (wr.setCell ⟨g, i * 4 + 1, none⟩ (.string l)) := by
  obtain ⟨h1, h2, cur, hc⟩ := h.tw.fo.tag (g := g) rfl
  exact ⟨h.bel.setCell (by show W.heap.size ≤ g; omega) _, (heap_setCell_other _ _ _ _ (by show W.heap.size + 1 ≠ g; exact (tag_ne hc h.r1 (by decide)).symm)).trans h.r1, (heap_setCell_other _ _ _ _ (by show rb ≠ g; exact (tag_ne hc h.rbx (by decide)).symm)).trans h.rbx, h.lb, h.lm, h.tw.setO l hx, h.mp.keep (heap_setCell_other _ _ _ _ (by show mb ≠ g; exact h.mp.row hc))⟩
theorem Rb.setE {W : World} {rb mb : Nat} {C : Array Value} {g m c : Nat} {o n s a : Value} {us : List Value} {f : S → Option Nat} {k : Nat} {R : Rcp} {wr : World} (h : Rb W rb mb C o n s a (.slice (some ⟨g, 0, none⟩) m c) us f k R wr) {i : Nat} {x : Pai} (l : S) (hx : R.e[i]? = some x) : Rb W rb mb C o n s a (.slice (some ⟨g, 0, none⟩) m c) us f k { R with e := R.e.set i (x.1, l) } (wr.setCell ⟨g, i * 2 + 1, none⟩ (.string l)) := by
  obtain ⟨h1, h2, cur, hc⟩ := h.tw.fe.tag (g := g) rfl
  exact ⟨h.bel.setCell (by show W.heap.size ≤ g; omega) _, (heap_setCell_other _ _ _ _ (by show W.heap.size + 1 ≠ g; exact (tag_ne hc h.r1 (by decide)).symm)).trans h.r1, (heap_setCell_other _ _ _ _ (by show rb ≠ g; exact (tag_ne hc h.rbx (by decide)).symm)).trans h.rbx, h.lb, h.lm, h.tw.setE l hx, h.mp.keep (heap_setCell_other _ _ _ _ (by show mb ≠ g; exact h.mp.row hc))⟩
theorem Rb.put {W : World} {rb mb : Nat} {C : Array Value} {o n s a e : Value} {us : List Value} {f f' : S → Option Nat} {k k' : Nat} {R : Rcp} {wr w' : World} (h : Rb W rb mb C o n s a e us f k R wr) (hm : Mp w' mb k' f') (hg : wr.grownBy w' (some mb)) : Rb W rb mb C o n s a e us f' k' R w' := by
  have kb : ∀ (g : Nat) D (t : Nat), wr.heap[g]? = some (.cells D t (0, 0)) → w'.heap[g]? = wr.heap[g]? := fun g D t hD => hg.block g (Array.getElem?_eq_some_iff.1 hD).1 (fun q => h.mp.row hD (Option.some.inj q).symm)
  exact ⟨⟨hg.os.trans h.bel.os, hg.tape.trans h.bel.tape, hg.output.trans h.bel.output, Nat.le_trans h.bel.size hg.size, fun j hj => (hg.block j (Nat.lt_of_lt_of_le hj h.bel.size) (fun q => by
    have := Option.some.inj q
    have := h.lm
    omega)).trans (h.bel.block j hj)⟩, (kb _ _ _ h.r1).trans h.r1, (kb _ _ _ h.rbx).trans h.rbx, h.lb, h.lm, h.tw.rows fun g D t hD _ => kb g D t hD, hm⟩
/-- The first output of a name, among the first i. -/
def fI (o : List Out) (i : Nat) (k : S) : Option Nat := (o.take i).findIdx? fun x => decide (x.1 = k)
theorem fI_zero (o : List Out) : fI o 0 = fun _ => none := by funext k; simp [fI]
theorem fI_succ (o : List Out) (i : Nat) (x : Out) (hx : o[i]? = some x) (k : S) : fI o (i + 1) k = (fI o i k).or (if x.1 = k then some i else none) := by
  have hi : i < o.length := (List.getElem?_eq_some_iff.1 hx).1
  unfold fI
  rw [List.take_add_one, hx]
  show (o.take i ++ [x]).findIdx? _ = _
  rw [List.findIdx?_append, List.length_take, Nat.min_eq_left (by omega)]
  congr 1
  by_cases e : x.1 = k <;> simp [e]
theorem fI_hit (o : List Out) (i : Nat) (x : Out) (hx : o[i]? = some x) (h : (fI o i x.1).isSome = true) : fI o (i + 1) = fI o i := by
  funext k
  rw [fI_succ o i x hx k]
  by_cases e : x.1 = k
  · subst e
    cases hq : fI o i x.1 with
    | none => rw [hq] at h; cases h
    | some j => rfl
  · rw [if_neg e]
    cases fI o i k <;> rfl
theorem fI_miss (o : List Out) (i : Nat) (x : Out) (hx : o[i]? = some x) (h : (fI o i x.1).isSome = false) : fI o (i + 1) = fun t => if t = x.1 then some i else fI o i t := by
  funext k
  rw [fI_succ o i x hx k]
  by_cases e : x.1 = k
  · subst e
    cases hq : fI o i x.1 with
    | none => simp
    | some j => rw [hq] at h; cases h
  · rw [if_neg e, if_neg (fun q => e q.symm)]
    cases fI o i k <;> rfl
theorem run_mkMap (w : World) (n : Int) : (Instr.makeMap 61 (some (.int .i64 n))).run Try.prog w = .ok (.map (some w.heap.size)) (w.alloc (.map #[] 0)) := by
  simp only [Instr.makeMap, Sem.run_bind, run_underlying Try.underlying61, Result.andThen_ok]
  simp [asInt, asIntOf, newObj, go_sem]
  rfl
section
attribute [local go_sem ↓] toLdR toStR toLdP
set_option maxRecDepth 100000 in
set_option maxHeartbeats 3200000 in
theorem relab_any (W : World) (o n s a e : Value) (R : Rcp) (hs : Sm R) (h : Rc W o n s a e R) (nzo : ∀ x ∈ R.o, x.1.size ≤ maxLen) (nze : ∀ p ∈ R.e, p.1.size ≤ maxLen) (lv : Value) (ls : List S) (hl : Ls W lv 1 (ls.map sR)) (hll : ls.length = R.o.length) : Calls Try.prog 20 #[.agg (rV o n s R.sys R.bld a e), lv] W fun en w' => ∃ o' n' s' a' e' us, en = .returned (.agg (rV o' n' s' R.sys R.bld a' e')) ∧ Tw W.heap.size w' o' n' s' a' e' us (rel R ls) ∧ Below W.heap.size W w' := by
  obtain ⟨B0, hB0⟩ : ∃ B0, (W.alloc (.cells (rV o n s R.sys R.bld a e) 27)).alloc (.cells zR 27) = B0 := ⟨_, rfl⟩
  have x0 : Bx W (rV o n s R.sys R.bld a e) B0 := hB0 ▸ bx_new W _
  have HC : Hid _ := copyOf_any B0 o n s a e R hs (h.below x0.bel)
  have l0 := ld_R B0 W.heap.size _ rfl x0.r0
  obtain ⟨ol, cl, hlv⟩ := hl.form
  obtain ⟨ll, hll2⟩ : ∃ k, ls.length = k := ⟨_, rfl⟩
  rw [List.length_map, hll2] at hlv
  subst hlv
  obtain ⟨sys, hsys⟩ : ∃ x, R.sys = x := ⟨_, rfl⟩
  obtain ⟨bld, hbld⟩ : ∃ x, R.bld = x := ⟨_, rfl⟩
  have HB : Hid (Bx W (rV o n s R.sys R.bld a e) B0 ∧ R.sys = sys ∧ R.bld = bld) := ⟨x0, hsys, hbld⟩
  rw [hsys, hbld] at HC l0 hB0 ⊢
  have HR : Hid (Sm R ∧ (∀ x ∈ R.o, x.1.size ≤ maxLen) ∧ (∀ p ∈ R.e, p.1.size ≤ maxLen) ∧ Ls W (.slice ol ll cl) 1 (ls.map sR) ∧ ls.length = R.o.length ∧ ls.length = ll) := ⟨hs, nzo, nze, hl, hll, hll2⟩
  rw [← hB0] at l0
  have HB0 : Hid (_ = B0) := hB0
  unfold rV zR at HB0 l0
  unfold rV
  clear h hs nzo nze hl hll hll2 x0 hsys hbld hB0
  go_enter Try.func20, Try.ntmps20
  go_wp2_with fail
  rw [HB0.out]
  refine Calls.mono HC.out ?_
  rintro en w1 ⟨o', n', s', a', e', us, rfl, tw, bw⟩
  obtain ⟨xo, co, fo, -⟩ := tw.fo.form
  obtain ⟨xn, cn, fn, -⟩ := tw.fn.form
  obtain ⟨xs, cs, fs, -⟩ := tw.fs.form
  obtain ⟨xa, ca, fa, -⟩ := tw.fa.form
  obtain ⟨xe, ce, fe, -⟩ := tw.fe.form
  have lul := tw.ul
  obtain ⟨lo, hlo⟩ : ∃ k, R.o.length = k := ⟨_, rfl⟩
  obtain ⟨ln, hln⟩ : ∃ k, (List.zipWith nR R.n us).length = k := ⟨_, rfl⟩
  obtain ⟨lss, hls⟩ : ∃ k, R.s.length = k := ⟨_, rfl⟩
  obtain ⟨la, hla⟩ : ∃ k, R.a.length = k := ⟨_, rfl⟩
  obtain ⟨le, hle⟩ : ∃ k, R.e.length = k := ⟨_, rfl⟩
  rw [List.length_map, hlo] at fo
  rw [hln] at fn
  rw [List.length_map, hls] at fs
  rw [List.length_map, hla] at fa
  rw [List.length_map, hle] at fe
  subst fo fn fs fa fe
  obtain ⟨Y1, hY1⟩ : ∃ Y, (w1.alloc (.cells zR 27)).setRow w1.heap.size (rV (.slice xo lo co) (.slice xn ln cn) (.slice xs lss cs) sys bld (.slice xa la ca) (.slice xe le ce)) = Y := ⟨_, rfl⟩
  have sY := st_R (w1.alloc (.cells zR 27)) w1.heap.size zR (rV (.slice xo lo co) (.slice xn ln cn) (.slice xs lss cs) sys bld (.slice xa la ca) (.slice xe le ce)) rfl rfl (by simp [rV, Value.oneCell']) (heap_alloc_new _ _)
  have rY : Y1.heap[w1.heap.size]? = some (.cells (rV (.slice xo lo co) (.slice xn ln cn) (.slice xs lss cs) sys bld (.slice xa la ca) (.slice xe le ce)) 27 (0, 0)) := by rw [← hY1]; exact setRow_heap _ _ _ _ _ _ (heap_alloc_new _ _)
  have bY : Below w1.heap.size w1 Y1 := by rw [← hY1]; exact below_setRow ((Below.refl _ w1).alloc (Nat.le_refl _) _) (Nat.le_refl _) _
  have zY : Y1.heap.size = w1.heap.size + 1 := by rw [← hY1]; simp [World.setRow]
  rw [hY1] at sY
  obtain ⟨X, hX⟩ : ∃ X, Y1.alloc (.map #[] 0) = X := ⟨_, rfl⟩
  have bX : Below w1.heap.size w1 X := by rw [← hX]; exact bY.alloc (by omega) _
  have rX : X.heap[w1.heap.size]? = some (.cells (rV (.slice xo lo co) (.slice xn ln cn) (.slice xs lss cs) sys bld (.slice xa la ca) (.slice xe le ce)) 27 (0, 0)) := by rw [← hX]; exact (heap_alloc_old _ _ (h := by omega)).trans rY
  have mX : Mp X (w1.heap.size + 1) 0 (fI R.o 0) := by
    rw [fI_zero, ← hX, ← zY]
    exact mp_made Y1
  have cX : X.cell? ⟨w1.heap.size, 0, none⟩ = some (.slice xo lo co) := c1 rX rfl
  have bB := HB.out.1.bel
  have bx1 := (HB.out.1.below bw).below bX
  have hz1 : W.heap.size + 2 ≤ w1.heap.size := by
    have := (Array.getElem?_eq_some_iff.1 HB.out.1.r1).1
    have := bw.size
    omega
  have HS : Hid (Rb W w1.heap.size (w1.heap.size + 1) (rV (.slice xo lo co) (.slice xn ln cn) (.slice xs lss cs) sys bld (.slice xa la ca) (.slice xe le ce)) (.slice xo lo co) (.slice xn ln cn) (.slice xs lss cs) (.slice xa la ca) (.slice xe le ce) us (fI R.o 0) 0 R X) :=
    ⟨bx1.bel, bx1.r1, rX, by omega, by omega, (tw.mono bB.size).below bX, mX⟩
  have HL : Hid (R.o.length = lo ∧ R.e.length = le) := ⟨hlo, hle⟩
  have HX : Hid (_ = X) := hX
  have mk := run_mkMap Y1 (ll : Int)
  rw [hX, zY] at mk
  have HZ : Hid (Y1.heap.size = w1.heap.size + 1) := zY
  unfold rV zR at sY
  unfold rV
  clear tw bw lul hlo hln hls hla hle bX rX mX bB bx1 hz1 hX HC l0 hY1 rY bY
  go_wp2_with fail
  clear cX mk sY
  obtain ⟨C1, hC1⟩ : ∃ C : Array Value, C = (rV (.slice xo lo co) (.slice xn ln cn) (.slice xs lss cs) sys bld (.slice xa la ca) (.slice xe le ce)) := ⟨_, rfl⟩
  obtain ⟨rb, hrb⟩ : ∃ k, w1.heap.size = k := ⟨_, rfl⟩
  obtain ⟨mb, hmb⟩ : ∃ k, rb + 1 = k := ⟨_, rfl⟩
  have HCC : Hid (C1 = (rV (.slice xo lo co) (.slice xn ln cn) (.slice xs lss cs) sys bld (.slice xa la ca) (.slice xe le ce))) := hC1
  rw [← hC1, hrb, hmb] at HS
  rw [hrb, hmb]
  clear hC1 hrb hmb HZ zY HX
  go_loopw [7, 8, 9, 22] (fun _ _ _ iv wr => ∃ (i : Nat) (oi : List Out), iv = .int .i64 (i : Int) ∧ Hid (i ≤ lo ∧ Dn R.o ls (fun j => decide (j < i)) oi ∧ Rb W rb mb C1 (.slice xo lo co) (.slice xn ln cn) (.slice xs lss cs) (.slice xa la ca) (.slice xe le ce) us (fI R.o i) i { R with o := oi } wr)) (fun _ _ _ iv _ => lo + 1 - (intOf iv).toNat)
  case atStart => exact ⟨0, R.o, rfl, Nat.zero_le _, by simpa using Dn.start R.o ls, HS.out⟩
  case round =>
    obtain ⟨i, oi, rfl, HI⟩ := hrel
    by_cases hi : i < lo
    · obtain ⟨ile, dn, rbh⟩ := HI.out
      have hin : i < R.o.length := by have := HL.out.1; omega
      obtain ⟨x, hx⟩ : ∃ x, R.o[i]? = some x := ⟨_, List.getElem?_eq_getElem hin⟩
      obtain ⟨l, hl⟩ : ∃ l, ls[i]? = some l := ⟨_, List.getElem?_eq_getElem (by have := HR.out.2.2.2.2.1; omega)⟩
      obtain ⟨y, hy, hy1, hy2⟩ := dn.name hx hl
      obtain ⟨g, rfl⟩ := rbh.tw.fo.own (by omega)
      have hl2 : (ls.map sR)[i]? = some (sR l) := by rw [List.getElem?_map, hl]; rfl
      obtain ⟨gl, ql, rfl, hgl, rl⟩ := HR.out.2.2.2.1.at i _ hl2
      have cl1 : wr.cell? ⟨gl, ql + i, none⟩ = some (.string l) := by have := range_block rl (rbh.bel.block _ hgl) 0 (.string l) rfl; simpa using this
      have cl2 : wr.drew.cell? ⟨gl, ql + i, none⟩ = some (.string l) := cl1
      have k1 : wr.cell? ⟨rb, 0, none⟩ = some (.slice (some ⟨g, 0, none⟩) lo co) := c1 rbh.rbx (by rw [HCC.out]; rfl)
      have k2 : wr.drew.cell? ⟨rb, 0, none⟩ = some (.slice (some ⟨g, 0, none⟩) lo co) := k1
      have hy3 : (oi.map oR)[i]? = some (oR y) := by rw [List.getElem?_map, hy]; rfl
      have rbd := rbh.below (below_drw wr)
      have fz : wr.drew.frozen? ⟨g, i * 4 + 1, none⟩ = false := rbd.tw.fo.fro _
      have oc : wr.drew.cell? ⟨g, i * 4 + 1, none⟩ = some (.string y.2.1) := rbd.tw.fo.cel i 1 _ _ hy3 rfl
      have rbz := rbd.setO l hy
      have dn' := dn.set (d' := fun j => decide (j < i + 1)) hx hl hy (fun j => by
        by_cases q : j = i
        · simp [q]
        · by_cases q2 : j < i
          · simp [q2, show j < i + 1 by omega]
          · simp [q, q2, show ¬ j < i + 1 by omega])
      obtain ⟨Z, hZ⟩ : ∃ Z, wr.drew.setCell ⟨g, i * 4 + 1, none⟩ (.string l) = Z := ⟨_, rfl⟩
      rw [hZ] at rbz
      have k3 : Z.cell? ⟨rb, 0, none⟩ = some (.slice (some ⟨g, 0, none⟩) lo co) := c1 rbz.rbx (by rw [HCC.out]; rfl)
      have hz3 : ((oi.set i (y.1, l, y.2.2)).map oR)[i]? = some (oR (y.1, l, y.2.2)) := by rw [List.getElem?_map, List.getElem?_set_self (by rw [dn.1]; exact hin)]; rfl
      have nm : Z.cell? ⟨g, i * 4, none⟩ = some (.string y.1) := rbz.tw.fo.cel i 0 _ _ hz3 rfl
      have nsz : y.1.size ≤ maxLen := by rw [hy1]; exact HR.out.2.1 x (List.mem_of_getElem? hx)
      obtain ⟨c, lkr, -⟩ := rbz.mp.look y.1 nsz
      obtain ⟨pw, pr, pm, pg⟩ := rbz.mp.put y.1 nsz i (by have := HR.out.1.1; omega) (by have := HR.out.1.1; omega)
      have rbp := rbz.put pm pg
      have hi0 : (0 : Int) ≤ (i : Int) := by omega
      have hi1 : (i : Int) < (lo : Int) := by omega
      have hi2 : (i : Int) < (ll : Int) := by have := HR.out.2.2.2.2; omega
      have w1' : IntKind.i64.wrap ((i : Int) + 1) = (i : Int) + 1 := by rw [IntKind.wrap_i64]; have := HR.out.1.1; omega
      have HE : Hid (i < lo ∧ Dn R.o ls (fun j => decide (j < i + 1)) (oi.set i (y.1, l, y.2.2))) := ⟨hi, dn'⟩
      obtain ⟨y1, y2, y3, y4⟩ := y
      by_cases hf : (fI R.o i y1).isSome = true
      · have ef : fI R.o (i + 1) = fI R.o i := fI_hit R.o i x hx (by rw [← hy1]; exact hf)
        have HF : Hid (Rb W rb mb C1 (.slice (some ⟨g, 0, none⟩) lo co) (.slice xn ln cn) (.slice xs lss cs) (.slice xa la ca) (.slice xe le ce) us (fI R.o (i + 1)) (i + 1) { R with o := oi.set i (y1, l, y3, y4) } Z) := by
          show Rb W rb mb C1 (.slice (some ⟨g, 0, none⟩) lo co) (.slice xn ln cn) (.slice xs lss cs) (.slice xa la ca) (.slice xe le ce) us (fI R.o (i + 1)) (i + 1) { R with o := oi.set i (y1, l, y3, y4) } Z
          rw [ef]
          obtain ⟨D, z1, z2⟩ := rbz.mp
          exact ⟨rbz.bel, rbz.r1, rbz.rbx, rbz.lb, rbz.lm, rbz.tw, D, z1.mono (Nat.le_succ _), z2⟩
        rw [show (fI R.o i (y1, y2, y3, y4).1).isSome = true from hf] at lkr
        clear hi ile dn rbh hin hx hl hy hy1 hy2 hl2 hgl rl hy3 rbd rbz dn' hz3 nsz pr pm pg rbp hf ef
        go_wp2_with fail
        go_region
        go_wp2_with fail
        go_roundw
        case rel => exact ⟨i + 1, _, by go_num, HE.out.1, HE.out.2, HF.out⟩
        case measure => have := HE.out.1; simp [intOf]; omega
      · have hf' : (fI R.o i y1).isSome = false := by simpa using hf
        have ef : fI R.o (i + 1) = fun t => if t = y1 then some i else fI R.o i t := by have := fI_miss R.o i x hx (by rw [← hy1]; exact hf'); rw [← hy1] at this; exact this
        have HF : Hid (Rb W rb mb C1 (.slice (some ⟨g, 0, none⟩) lo co) (.slice xn ln cn) (.slice xs lss cs) (.slice xa la ca) (.slice xe le ce) us (fI R.o (i + 1)) (i + 1) { R with o := oi.set i (y1, l, y3, y4) } pw) := by rw [ef]; exact rbp
        rw [show (fI R.o i (y1, y2, y3, y4).1).isSome = false from hf'] at lkr
        clear hi ile dn rbh hin hx hl hy hy1 hy2 hl2 hgl rl hy3 rbd rbz dn' hz3 nsz pm pg rbp hf hf' ef
        go_wp2_with fail
        go_region
        go_wp2_with fail
        go_roundw
        case rel => exact ⟨i + 1, _, by go_num, HE.out.1, HE.out.2, HF.out⟩
        case measure => have := HE.out.1; simp [intOf]; omega
    · obtain ⟨ile, dn, rbh⟩ := HI.out
      have hin : R.o.length = i := by have := HL.out.1; omega
      have eo := dn.fin (fun j hj => by simp; omega) HR.out.2.2.2.2.1
      have HS2 : Hid (Rb W rb mb C1 (.slice xo lo co) (.slice xn ln cn) (.slice xs lss cs) (.slice xa la ca) (.slice xe le ce) us (fI R.o lo) lo { R with o := rlo R.o ls } wr) := by
        show Rb W rb mb C1 (.slice xo lo co) (.slice xn ln cn) (.slice xs lss cs) (.slice xa la ca) (.slice xe le ce) us (fI R.o lo) lo { R with o := rlo R.o ls } wr
        rw [← eo]
        obtain rfl : i = lo := by omega
        exact rbh
      have k6 : wr.cell? ⟨rb, 6, none⟩ = some (.slice xe le ce) := c1 rbh.rbx (by rw [HCC.out]; rfl)
      have hi2 : ¬ ((i : Int) < (lo : Int)) := by omega
      clear hi ile dn rbh hin eo
      go_wp2_with fail
      clear k6 hi2
      go_loopw [10, 11, 12, 13, 59] (fun _ _ _ _ iv wr => ∃ (i : Nat) (ei : List Pai), iv = .int .i64 (i : Int) ∧ Hid (i ≤ le ∧ De R.e (fun j p => if j < i then gP (R.o.zip ls) p else p) ei ∧ Rb W rb mb C1 (.slice xo lo co) (.slice xn ln cn) (.slice xs lss cs) (.slice xa la ca) (.slice xe le ce) us (fI R.o lo) lo { R with o := rlo R.o ls, e := ei } wr)) (fun _ _ _ _ iv _ => le + 1 - (intOf iv).toNat)
      case atStart => exact ⟨0, R.e, rfl, Nat.zero_le _, by simpa using De.start R.e, HS2.out⟩
      case round =>
        obtain ⟨i, ei, rfl, HI⟩ := hrel
        by_cases hi : i < le
        · obtain ⟨ile, de, rbh⟩ := HI.out
          have hin : i < R.e.length := by have := HL.out.2; omega
          obtain ⟨p, hp⟩ : ∃ p, R.e[i]? = some p := ⟨_, List.getElem?_eq_getElem hin⟩
          have hp2 : ei[i]? = some p := by have := de.2 i p hp; simpa using this
          obtain ⟨g, rfl⟩ := rbh.tw.fe.own (by omega)
          have hp3 : (ei.map eR)[i]? = some (eR p) := by rw [List.getElem?_map, hp2]; rfl
          obtain ⟨g', q', hgq, hg, r1⟩ := rbh.tw.fe.ls.at i _ hp3
          injection hgq with hgq
          injection hgq with e1 e2
          subst e1 e2
          rw [Nat.zero_add] at r1
          have l1 := ld_P wr g (i * 2) _ rfl r1
          obtain ⟨X2, hX2⟩ : ∃ X, wr.alloc (.cells (eR p) 44) = X := ⟨_, rfl⟩
          have bX2 : Below wr.heap.size wr X2 := by rw [← hX2]; exact (Below.refl _ wr).alloc (Nat.le_refl _) _
          have rbX := rbh.below bX2
          have psz : p.1.size ≤ maxLen := HR.out.2.2.1 p (List.mem_of_getElem? hp)
          obtain ⟨c, lkr, hc⟩ := rbX.mp.look p.1 psz
          have hi0 : (0 : Int) ≤ (i : Int) := by omega
          have hi1 : (i : Int) < (le : Int) := by omega
          have w1' : IntKind.i64.wrap ((i : Int) + 1) = (i : Int) + 1 := by rw [IntKind.wrap_i64]; have := HR.out.1.2.2.2.2.1; omega
          have efI : fI R.o lo p.1 = R.o.findIdx? (fun x => decide (x.1 = p.1)) := by unfold fI; rw [List.take_of_length_le (by have := HL.out.1; omega)]
          have HX2 : Hid (_ = X2) := hX2
          cases hf : fI R.o lo p.1 with
          | none =>
            rw [hf] at lkr
            have eg : gP (R.o.zip ls) p = p := by unfold gP; rw [lk_none R.o ls p.1 (by rw [← efI]; exact hf)]
            have HF : Hid (i < le ∧ De R.e (fun j p => if j < i + 1 then gP (R.o.zip ls) p else p) ei ∧ Rb W rb mb C1 (.slice xo lo co) (.slice xn ln cn) (.slice xs lss cs) (.slice xa la ca) (.slice (some ⟨g, 0, none⟩) le ce) us (fI R.o lo) lo { R with o := rlo R.o ls, e := ei } X2) := ⟨hi, de.to (fun j u hj => by
              by_cases q : j = i
              · subst q
                obtain rfl : p = u := Option.some.inj (hp.symm.trans hj)
                simp [eg]
              · by_cases q2 : j < i
                · simp [q2, show j < i + 1 by omega]
                · simp [q2, show ¬ j < i + 1 by omega]), rbX⟩
            obtain ⟨p1, p2⟩ := p
            unfold eR at l1 HX2
            rw [← HX2.out] at lkr
            clear hi ile de rbh hin hp hp2 hp3 hg r1 bX2 rbX psz hc efI hf eg hX2
            go_wp2_with fail
            rw [HX2.out]
            go_roundw
            case rel => exact ⟨i + 1, _, by go_num, HF.out.1, HF.out.2.1, HF.out.2.2⟩
            case measure => have := HF.out.1; simp [intOf]; omega
          | some j =>
            obtain rfl := hc j hf
            rw [hf] at lkr
            obtain ⟨l, hlj, hlk⟩ := lk_idx R.o ls p.1 HR.out.2.2.2.2.1 j (by rw [← efI]; exact hf)
            have eg : gP (R.o.zip ls) p = (p.1, l) := by unfold gP; rw [hlk]
            have hl2 : (ls.map sR)[j]? = some (sR l) := by rw [List.getElem?_map, hlj]; rfl
            obtain ⟨gl, ql, rfl, hgl, rl⟩ := HR.out.2.2.2.1.at j _ hl2
            have cl1 : X2.drew.cell? ⟨gl, ql + j, none⟩ = some (.string l) := by have := range_block rl (rbX.bel.block _ hgl) 0 (.string l) rfl; simpa using this
            have k1 : X2.drew.cell? ⟨rb, 6, none⟩ = some (.slice (some ⟨g, 0, none⟩) le ce) := c1 rbX.rbx (by rw [HCC.out]; rfl)
            have rbd := rbX.below (below_drw X2)
            have fz : X2.drew.frozen? ⟨g, i * 2 + 1, none⟩ = false := rbd.tw.fe.fro _
            have oc : X2.drew.cell? ⟨g, i * 2 + 1, none⟩ = some (.string p.2) := rbd.tw.fe.cel i 1 _ _ hp3 rfl
            have rbz := rbd.setE l hp2
            obtain ⟨Z, hZ⟩ : ∃ Z, X2.drew.setCell ⟨g, i * 2 + 1, none⟩ (.string l) = Z := ⟨_, rfl⟩
            rw [hZ] at rbz
            have hj0 : (0 : Int) ≤ (j : Int) := by omega
            have hj1 : (j : Int) < (ll : Int) := by have := (List.getElem?_eq_some_iff.1 hlj).1; have := HR.out.2.2.2.2.2; omega
            have HF : Hid (i < le ∧ De R.e (fun j p => if j < i + 1 then gP (R.o.zip ls) p else p) (ei.set i (p.1, l)) ∧ Rb W rb mb C1 (.slice xo lo co) (.slice xn ln cn) (.slice xs lss cs) (.slice xa la ca) (.slice (some ⟨g, 0, none⟩) le ce) us (fI R.o lo) lo { R with o := rlo R.o ls, e := ei.set i (p.1, l) } Z) := ⟨hi, de.set hp (by simp [eg]) (fun m u hm q => by
              by_cases q2 : m < i
              · simp [q2, show m < i + 1 by omega]
              · simp [q2, show ¬ m < i + 1 by omega]), rbz⟩
            obtain ⟨p1, p2⟩ := p
            unfold eR at l1 HX2
            rw [← HX2.out] at lkr
            clear hi ile de rbh hin hp hp2 hp3 hg r1 bX2 rbX psz hc efI hf eg hX2 hlj hlk hl2 hgl rl rbd rbz
            go_wp2_with fail
            rw [HX2.out]
            go_region
            go_wp2_with fail
            go_roundw
            case rel => exact ⟨i + 1, _, by go_num, HF.out.1, HF.out.2.1, HF.out.2.2⟩
            case measure => have := HF.out.1; simp [intOf]; omega
        · obtain ⟨ile, de, rbh⟩ := HI.out
          have hin : R.e.length = i := by have := HL.out.2; omega
          have ee := de.fin (g := gP (R.o.zip ls)) (fun j p hj => by
            have := (List.getElem?_eq_some_iff.1 hj).1
            simp [show j < i by omega])
          have tw := rbh.tw
          rw [ee] at tw
          have hrb := rbh.rbx
          rw [HCC.out] at hrb
          have ldR' := ld_R wr rb _ rfl hrb
          have stR' := st_R wr (W.heap.size + 1) _ (rV (.slice xo lo co) (.slice xn ln cn) (.slice xs lss cs) sys bld (.slice xa la ca) (.slice xe le ce)) rfl rfl (by simp [rV, Value.oneCell']) rbh.r1
          obtain ⟨B6, hB6⟩ : ∃ B, wr.setRow (W.heap.size + 1) (rV (.slice xo lo co) (.slice xn ln cn) (.slice xs lss cs) sys bld (.slice xa la ca) (.slice xe le ce)) = B := ⟨_, rfl⟩
          have HR6 : Hid (B6.heap[W.heap.size + 1]? = some (.cells (rV (.slice xo lo co) (.slice xn ln cn) (.slice xs lss cs) sys bld (.slice xa la ca) (.slice xe le ce)) 27 (0, 0))) := by
            show B6.heap[W.heap.size + 1]? = _
            rw [← hB6]
            exact setRow_heap _ _ _ _ _ _ rbh.r1
          have HF : Hid (Tw W.heap.size B6 (.slice xo lo co) (.slice xn ln cn) (.slice xs lss cs) (.slice xa la ca) (.slice xe le ce) us (rel R ls) ∧ Below W.heap.size W B6) := by
            rw [← hB6]
            exact ⟨tw.rows (fun g C t hC ht => setRow_other _ _ _ _ (tag_ne hC rbh.r1 ht)), below_setRow rbh.bel (by omega) _⟩
          unfold rV at ldR' stR' hB6
          have hi2 : ¬ ((i : Int) < (le : Int)) := by omega
          clear hi ile de rbh hin ee tw hrb
          go_wp2_with fail
          refine bodyPost_ret (results_R rfl _ _ (W.heap.size + 1) _ rfl rfl HR6.out) rfl ?_
          exact ⟨_, _, _, _, _, rfl, ⟨us, HF.out.1⟩, HF.out.2⟩
end
end Go.Proofs.Ytcggaiplepekdaa
