/- Recipes as they lie; equal. -/
import Derived.Test.YtcggaiplepekdaaRcB
namespace Go.Proofs.Ytcggaiplepekdaa
open Go.RowKit
/-- A recipe. -/
structure Rcp where
  o : List Out
  n : List (S × List S)
  s : List S
  sys : S
  bld : S
  a : List S
  e : List Pai
def nR (x : S × List S) (u : Value) : Array Value := #[.string x.1, u]
/-- A list of inputs as it lies: us are their own lists. -/
def In (W : World) (v : Value) (l : List (S × List S)) : Prop := ∃ us : List Value, us.length = l.length ∧ Ls W v 2 (List.zipWith nR l us) ∧ ∀ (i : Nat) x u, l[i]? = some x → us[i]? = some u → Ls W u 1 (x.2.map sR)
theorem In.below {W W' : World} {v : Value} {l : List (S × List S)} (h : In W v l) (hb : Below W.heap.size W W') : In W' v l := by
  obtain ⟨us, h1, h2, h3⟩ := h
  exact ⟨us, h1, h2.below hb, fun i x u q1 q2 => (h3 i x u q1 q2).below hb⟩
def rV (o n s : Value) (sys bld : S) (a e : Value) : Array Value := #[o, n, s, .string sys, .string bld, a, e]
/-- A recipe as it lies. -/
structure Rc (W : World) (o n s a e : Value) (R : Rcp) : Prop where
  o : Ls W o 4 (R.o.map oR)
  n : In W n R.n
  s : Ls W s 1 (R.s.map sR)
  a : Ls W a 1 (R.a.map sR)
  e : Ls W e 2 (R.e.map eR)
theorem Rc.below {W W' : World} {o n s a e : Value} {R : Rcp} (h : Rc W o n s a e R) (hb : Below W.heap.size W W') : Rc W' o n s a e R := ⟨h.o.below hb, h.n.below hb, h.s.below hb, h.a.below hb, h.e.below hb⟩
/-- A recipe that is not too long. -/
def Sm (R : Rcp) : Prop := R.o.length ≤ 10000000 ∧ R.n.length ≤ 10000000 ∧ R.s.length ≤ 10000000 ∧ R.a.length ≤ 10000000 ∧ R.e.length ≤ 10000000 ∧ ∀ x ∈ R.n, x.2.length ≤ 10000000
theorem Ls.form {W : World} {v : Value} {sz : Nat} {l : List (Array Value)} (h : Ls W v sz l) : ∃ oa cap, v = .slice oa l.length cap := by
  obtain ⟨oa, cap, h, -⟩ := h
  exact ⟨oa, cap, h⟩
theorem Ls.at {W : World} {oa : Option Addr} {n cap sz : Nat} {l : List (Array Value)} (h : Ls W (.slice oa n cap) sz l) (i : Nat) (c : Array Value) (hc : l[i]? = some c) : ∃ g o, oa = some ⟨g, o, none⟩ ∧ g < W.heap.size ∧ W.rangeAt g (o + i * sz) c.toList := by
  obtain ⟨oa', cap', e, -, -, -, -, h⟩ := h
  injection e with e1 e2 e3
  subst e1
  exact h i c hc
def ldO (p : Value) : Sem Value := Instr.loadAt 39 p
theorem toLdO (p : Value) : Instr.loadAt 39 p = ldO p := rfl
def ldP (p : Value) : Sem Value := Instr.loadAt 44 p
theorem toLdP (p : Value) : Instr.loadAt 44 p = ldP p := rfl
def ldI (p : Value) : Sem Value := Instr.loadAt 42 p
theorem toLdI (p : Value) : Instr.loadAt 42 p = ldI p := rfl
def ldR (p : Value) : Sem Value := Instr.loadAt 27 p
theorem toLdR (p : Value) : Instr.loadAt 27 p = ldR p := rfl
theorem sizeO : (Try.prog.info? 39).map (·.size) = some 4 := by kernel_rfl
theorem sizeP : (Try.prog.info? 44).map (·.size) = some 2 := by kernel_rfl
theorem sizeI : (Try.prog.info? 42).map (·.size) = some 2 := by kernel_rfl
theorem sizeR : (Try.prog.info? 27).map (·.size) = some 7 := by kernel_rfl
theorem ld_O (w : World) (g o : Nat) (c : Array Value) (hc : c.size = 4) (h : w.rangeAt g o c.toList) : (ldO (.pointer (some ⟨g, o, none⟩))).run Try.prog w = .ok (.agg c) w := by
  have := run_loadAt_mid (P := Try.prog) w g o 39 c.toList _ h Try.underlying39 rfl (by rw [sizeO]; simp [hc])
  simpa [ldO] using this
theorem ld_P (w : World) (g o : Nat) (c : Array Value) (hc : c.size = 2) (h : w.rangeAt g o c.toList) : (ldP (.pointer (some ⟨g, o, none⟩))).run Try.prog w = .ok (.agg c) w := by
  have := run_loadAt_mid (P := Try.prog) w g o 44 c.toList _ h Try.underlying44 rfl (by rw [sizeP]; simp [hc])
  simpa [ldP] using this
theorem ld_I (w : World) (g o : Nat) (c : Array Value) (hc : c.size = 2) (h : w.rangeAt g o c.toList) : (ldI (.pointer (some ⟨g, o, none⟩))).run Try.prog w = .ok (.agg c) w := by
  have := run_loadAt_mid (P := Try.prog) w g o 42 c.toList _ h Try.underlying42 rfl (by rw [sizeI]; simp [hc])
  simpa [ldI] using this
theorem ld_R (w : World) (g : Nat) (c : Array Value) (hc : c.size = 7) (h : w.heap[g]? = some (.cells c 27 (0, 0))) : (ldR (.pointer (some ⟨g, 0, none⟩))).run Try.prog w = .ok (.agg c) w := by
  have h2 := World.rangeAt_of_block h 0 7
  rw [show c.extract 0 (0 + 7) = c by rw [← hc, Nat.zero_add]; simp] at h2
  have := run_loadAt_mid (P := Try.prog) w g 0 27 c.toList _ h2 Try.underlying27 rfl (by rw [sizeR]; simp [hc])
  simpa [ldR] using this
theorem row2 (W : World) (a b : Obj) : ((W.alloc a).alloc b).heap[W.heap.size]? = some a := (heap_alloc_old _ _ (h := by simp)).trans (heap_alloc_new _ _)
theorem row2n (W : World) (a b : Obj) : ((W.alloc a).alloc b).heap[W.heap.size + 1]? = some b := by
  have := heap_alloc_new (W.alloc a) b
  simpa using this
theorem below2 (W : World) (a b : Obj) : Below W.heap.size W ((W.alloc a).alloc b) := ((Below.refl _ W).alloc (Nat.le_refl _) a).alloc (by simp) b
theorem c1 {w : World} {g : Nat} {c : Array Value} {t : Nat} (h : w.heap[g]? = some (.cells c t (0, 0))) {i : Nat} {u : Value} (hu : c[i]? = some u) : w.cell? ⟨g, i, none⟩ = some u := by
  rw [cell_of_row _ _ _ _ _ _ h]
  exact hu
/-- Two recipes in boxes. -/
structure Eb (W : World) (R : Rcp) (o n s a e o' n' s' a' e' : Value) (wr : World) : Prop where
  bel : Below W.heap.size W wr
  r0 : wr.heap[W.heap.size]? = some (.cells (rV o n s R.sys R.bld a e) 27 (0, 0))
  r1 : wr.heap[W.heap.size + 1]? = some (.cells (rV o' n' s' R.sys R.bld a' e') 27 (0, 0))
theorem Eb.drew {W : World} {R : Rcp} {o n s a e o' n' s' a' e' : Value} {wr : World} (h : Eb W R o n s a e o' n' s' a' e' wr) (k : Nat) : Eb W R o n s a e o' n' s' a' e' (wr.drewN k) := ⟨⟨h.bel.os, h.bel.tape, h.bel.output, h.bel.size, h.bel.block⟩, h.r0, h.r1⟩
section
attribute [local go_sem ↓] toLdO toLdP
set_option maxRecDepth 100000 in
set_option maxHeartbeats 3200000 in
theorem equal_any (W : World) (R : Rcp) (hs : Sm R) (o n s a e o' n' s' a' e' : Value) (h : Rc W o n s a e R) (h' : Rc W o' n' s' a' e' R) : Calls Try.prog 15 #[.agg (rV o n s R.sys R.bld a e), .agg (rV o' n' s' R.sys R.bld a' e')] W fun en w' => en = .returned (.bool true) ∧ Below W.heap.size W w' := by
  have HS : Hid (Eb W R o n s a e o' n' s' a' e' ((W.alloc (.cells (rV o n s R.sys R.bld a e) 27)).alloc (.cells (rV o' n' s' R.sys R.bld a' e') 27))) := ⟨below2 _ _ _, row2 _ _ _, row2n _ _ _⟩
  have HR : Hid (Rc W o n s a e R ∧ Rc W o' n' s' a' e' R ∧ Sm R) := ⟨h, h', hs⟩
  obtain ⟨us, hu1, hu2, hu3⟩ := h.n
  obtain ⟨us', hv1, hv2, hv3⟩ := h'.n
  have HN : Hid (us.length = R.n.length ∧ us'.length = R.n.length ∧ Ls W n 2 (List.zipWith nR R.n us) ∧ Ls W n' 2 (List.zipWith nR R.n us') ∧ (∀ (i : Nat) x u, R.n[i]? = some x → us[i]? = some u → Ls W u 1 (x.2.map sR)) ∧ (∀ (i : Nat) x u, R.n[i]? = some x → us'[i]? = some u → Ls W u 1 (x.2.map sR))) := ⟨hu1, hv1, hu2, hv2, hu3, hv3⟩
  obtain ⟨xo, co, fo⟩ := (h.o).form
  obtain ⟨xoq, coq, foq⟩ := (h'.o).form
  obtain ⟨xn, cn, fn⟩ := (hu2).form
  obtain ⟨xnq, cnq, fnq⟩ := (hv2).form
  obtain ⟨xs, cs, fs⟩ := (h.s).form
  obtain ⟨xsq, csq, fsq⟩ := (h'.s).form
  obtain ⟨xa, ca, fa⟩ := (h.a).form
  obtain ⟨xaq, caq, faq⟩ := (h'.a).form
  obtain ⟨xe, ce, fe⟩ := (h.e).form
  obtain ⟨xeq, ceq, feq⟩ := (h'.e).form
  obtain ⟨lo, hlo⟩ : ∃ k, R.o.length = k := ⟨_, rfl⟩
  obtain ⟨ln, hln⟩ : ∃ k, R.n.length = k := ⟨_, rfl⟩
  obtain ⟨lss, hls⟩ : ∃ k, R.s.length = k := ⟨_, rfl⟩
  obtain ⟨la, hla⟩ : ∃ k, R.a.length = k := ⟨_, rfl⟩
  obtain ⟨le, hle⟩ : ∃ k, R.e.length = k := ⟨_, rfl⟩
  have z1 : (List.zipWith nR R.n us).length = ln := by rw [List.length_zipWith, hu1, Nat.min_self]; exact hln
  have z2 : (List.zipWith nR R.n us').length = ln := by rw [List.length_zipWith, hv1, Nat.min_self]; exact hln
  rw [List.length_map, hlo] at fo foq
  rw [z1] at fn
  rw [z2] at fnq
  rw [List.length_map, hls] at fs fsq
  rw [List.length_map, hla] at fa faq
  rw [List.length_map, hle] at fe feq
  subst fo foq fn fnq fs fsq fa faq fe feq
  have HL : Hid (R.o.length = lo ∧ R.n.length = ln ∧ R.s.length = lss ∧ R.a.length = la ∧ R.e.length = le) := ⟨hlo, hln, hls, hla, hle⟩
  have HM : Hid (lo < 9000000000000000000 ∧ ln < 9000000000000000000 ∧ le < 9000000000000000000) := by
    have := hs
    unfold Sm at this
    exact ⟨by omega, by omega, by omega⟩
  obtain ⟨sys, hsys⟩ : ∃ x, R.sys = x := ⟨_, rfl⟩
  obtain ⟨bld, hbld⟩ : ∃ x, R.bld = x := ⟨_, rfl⟩
  rw [hsys, hbld] at HS ⊢
  have HY : Hid (R.sys = sys ∧ R.bld = bld) := ⟨hsys, hbld⟩
  clear h h' hs hu1 hu2 hu3 hv1 hv2 hv3 hlo hln hls hla hle z1 z2 hsys hbld
  obtain ⟨EB, hEB⟩ : ∃ EB : World → Prop, EB = Eb W R (.slice xo lo co) (.slice xn ln cn) (.slice xs lss cs) (.slice xa la ca) (.slice xe le ce) (.slice xoq lo coq) (.slice xnq ln cnq) (.slice xsq lss csq) (.slice xaq la caq) (.slice xeq le ceq) := ⟨_, rfl⟩
  rw [← hEB] at HS
  have HE : Hid (∀ w, EB w → Below W.heap.size W w ∧ (∀ k, EB (w.drewN k)) ∧ w.cell? ⟨W.heap.size, 0, none⟩ = some (.slice xo lo co) ∧ w.cell? ⟨W.heap.size, 1, none⟩ = some (.slice xn ln cn) ∧ w.cell? ⟨W.heap.size, 2, none⟩ = some (.slice xs lss cs) ∧ w.cell? ⟨W.heap.size, 5, none⟩ = some (.slice xa la ca) ∧ w.cell? ⟨W.heap.size, 6, none⟩ = some (.slice xe le ce) ∧ w.cell? ⟨W.heap.size + 1, 0, none⟩ = some (.slice xoq lo coq) ∧ w.cell? ⟨W.heap.size + 1, 1, none⟩ = some (.slice xnq ln cnq) ∧ w.cell? ⟨W.heap.size + 1, 2, none⟩ = some (.slice xsq lss csq) ∧ w.cell? ⟨W.heap.size + 1, 5, none⟩ = some (.slice xaq la caq) ∧ w.cell? ⟨W.heap.size + 1, 6, none⟩ = some (.slice xeq le ceq)) := fun w hw => by
    rw [hEB] at hw ⊢
    exact ⟨hw.bel, fun k => hw.drew k, c1 hw.r0 rfl, c1 hw.r0 rfl, c1 hw.r0 rfl, c1 hw.r0 rfl, c1 hw.r0 rfl, c1 hw.r1 rfl, c1 hw.r1 rfl, c1 hw.r1 rfl, c1 hw.r1 rfl, c1 hw.r1 rfl⟩
  clear hEB
  unfold rV at *
  go_enter Try.func15, Try.ntmps15
  go_wp2_with fail
  go_loopw [5] (fun iv wr => ∃ i : Nat, iv = .int .i64 (i : Int) ∧ Hid (i ≤ lo ∧ EB wr)) (fun iv _ => lo + 1 - (intOf iv).toNat)
  case atStart => exact ⟨0, rfl, Nat.zero_le _, HS.out⟩
  case round =>
    obtain ⟨i, rfl, HI⟩ := hrel
    obtain ⟨bw, -, k0, k1, k2, k5, k6, m0, m1, m2, m5, m6⟩ := HE.out wr HI.out.2
    by_cases hi : i < lo
    · obtain ⟨x, hx⟩ : ∃ x, R.o[i]? = some x := ⟨_, List.getElem?_eq_getElem (by have := HL.out; omega)⟩
      obtain ⟨x1, x2, x3, x4⟩ := x
      have hx2 : (R.o.map oR)[i]? = some (oR (x1, x2, x3, x4)) := by rw [List.getElem?_map, hx]; rfl
      obtain ⟨g, q, rfl, hg, r1⟩ := HR.out.1.o.at i _ hx2
      obtain ⟨g', q', rfl, hg', r1'⟩ := HR.out.2.1.o.at i _ hx2
      have l1 := ld_O wr g (q + i * 4) _ rfl (range_block r1 (bw.block _ hg))
      have l2 := ld_O wr g' (q' + i * 4) _ rfl (range_block r1' (bw.block _ hg'))
      have l3 := ld_O wr.drew g (q + i * 4) _ rfl (range_block r1 (bw.block _ hg))
      have l4 := ld_O wr.drew g' (q' + i * 4) _ rfl (range_block r1' (bw.block _ hg'))
      unfold oR at l1 l2 l3 l4
      have e1 : wr.drew.cell? ⟨W.heap.size, 0, none⟩ = some (.slice (some ⟨g, q, none⟩) lo co) := k0
      have e2 : wr.drew.cell? ⟨W.heap.size + 1, 0, none⟩ = some (.slice (some ⟨g', q', none⟩) lo coq) := m0
      have hi0 : (0 : Int) ≤ (i : Int) := by omega
      have hi1 : (i : Int) < (lo : Int) := by omega
      have w1 : IntKind.i64.wrap ((i : Int) + 1) = (i : Int) + 1 := by rw [IntKind.wrap_i64]; have := HM.out; omega
      have HK : Hid (i < lo) := hi
      clear hi hx hx2 hg hg' r1 r1' bw k1 k2 k5 k6 m1 m2 m5 m6
      go_wp2_with fail
      go_region
      go_wp2_with fail
      go_roundw
      case rel => exact ⟨i + 1, by go_num, HK.out, (HE.out _ HI.out.2).2.1 1⟩
      case measure => have := HK.out; simp [intOf]; omega
    · have hi2 : ¬ ((i : Int) < (lo : Int)) := by omega
      have HN2 : Hid (EB wr) := HI.out.2
      clear hi bw
      go_wp2_with fail
      go_loopw [6] (fun iv wr => ∃ i : Nat, iv = .int .i64 (i : Int) ∧ Hid (i ≤ ln ∧ EB wr)) (fun iv _ => ln + 1 - (intOf iv).toNat)
      case atStart => exact ⟨0, rfl, Nat.zero_le _, HN2.out⟩
      case round =>
        obtain ⟨i, rfl, HI⟩ := hrel
        obtain ⟨bw, -, k0, k1, k2, k5, k6, m0, m1, m2, m5, m6⟩ := HE.out wr HI.out.2
        by_cases hi : i < ln
        · have hin : i < R.n.length := by have := HL.out; omega
          obtain ⟨x, hx⟩ : ∃ x, R.n[i]? = some x := ⟨_, List.getElem?_eq_getElem hin⟩
          obtain ⟨u, hu⟩ : ∃ u, us[i]? = some u := ⟨_, List.getElem?_eq_getElem (by have := HN.out.1; omega)⟩
          obtain ⟨u', hu'⟩ : ∃ u, us'[i]? = some u := ⟨_, List.getElem?_eq_getElem (by have := HN.out.2.1; omega)⟩
          have hz : (List.zipWith nR R.n us)[i]? = some (nR x u) := by rw [List.getElem?_zipWith, hx, hu]
          have hz' : (List.zipWith nR R.n us')[i]? = some (nR x u') := by rw [List.getElem?_zipWith, hx, hu']
          obtain ⟨g, q, rfl, hg, r1⟩ := HN.out.2.2.1.at i _ hz
          obtain ⟨g', q', rfl, hg', r1'⟩ := HN.out.2.2.2.1.at i _ hz'
          have rr := range_block r1 (bw.block _ hg)
          have rr' := range_block r1' (bw.block _ hg')
          have s1 : wr.cell? ⟨g, q + i * 2, none⟩ = some (.string x.1) := rr 0 _ rfl
          have s2 : wr.cell? ⟨g, q + i * 2 + 1, none⟩ = some u := rr 1 _ rfl
          have s3 : wr.cell? ⟨g', q' + i * 2, none⟩ = some (.string x.1) := rr' 0 _ rfl
          have s4 : wr.cell? ⟨g', q' + i * 2 + 1, none⟩ = some u' := rr' 1 _ rfl
          have lu := (HN.out.2.2.2.2.1 i x u hx hu).below bw
          have lu' := (HN.out.2.2.2.2.2 i x u' hx hu').below bw
          have hxm : x.2.length ≤ MX := by
            have := HR.out.2.2.2.2.2.2.2 x (List.mem_of_getElem? hx)
            unfold MX
            omega
          have TX : Hid (∀ k, Calls Try.prog 17 #[u, u'] (wr.drewN k) fun e w' => e = .returned (.bool true) ∧ ∃ m, w' = (wr.drewN k).drewN m) := fun k => texts_eq (wr.drewN k) u u' x.2 (lu.below (drew_bel ⟨k, rfl⟩)) (lu'.below (drew_bel ⟨k, rfl⟩)) hxm
          obtain ⟨ou, cu, hu0⟩ := lu.form
          obtain ⟨ou', cu', hu0'⟩ := lu'.form
          obtain ⟨xl, hxl⟩ : ∃ k, (x.2.map sR).length = k := ⟨_, rfl⟩
          rw [hxl] at hu0 hu0'
          subst hu0 hu0'
          obtain ⟨x1, x2⟩ := x
          have hi0 : (0 : Int) ≤ (i : Int) := by omega
          have hi1 : (i : Int) < (ln : Int) := by omega
          have w1 : IntKind.i64.wrap ((i : Int) + 1) = (i : Int) + 1 := by rw [IntKind.wrap_i64]; have := HM.out; omega
          have HK : Hid (i < ln) := hi
          clear hi hx hu hu' hz hz' hg hg' r1 r1' rr rr' bw lu lu' hxm hxl hin k0 k2 k5 k6 m0 m2 m5 m6
          go_wp2_with fail
          go_quiet ((go_at_call 17; exact Calls.quiet_of (TX.out _)))
          go_wp2_with fail
          go_roundw
          case rel => exact ⟨i + 1, by go_num, HK.out, (HE.out _ HI.out.2).2.1 _⟩
          case measure => have := HK.out; simp [intOf]; omega
        · have hi2 : ¬ ((i : Int) < (ln : Int)) := by omega
          have HN3 : Hid (EB wr) := HI.out.2
          clear hi bw
          go_wp2_with fail
          go_loopw [7] (fun iv wr => ∃ i : Nat, iv = .int .i64 (i : Int) ∧ Hid (i ≤ le ∧ EB wr)) (fun iv _ => le + 1 - (intOf iv).toNat)
          case atStart => exact ⟨0, rfl, Nat.zero_le _, HN3.out⟩
          case round =>
            obtain ⟨i, rfl, HI⟩ := hrel
            obtain ⟨bw, -, k0, k1, k2, k5, k6, m0, m1, m2, m5, m6⟩ := HE.out wr HI.out.2
            by_cases hi : i < le
            · obtain ⟨x, hx⟩ : ∃ x, R.e[i]? = some x := ⟨_, List.getElem?_eq_getElem (by have := HL.out; omega)⟩
              obtain ⟨x1, x2⟩ := x
              have hx2 : (R.e.map eR)[i]? = some (eR (x1, x2)) := by rw [List.getElem?_map, hx]; rfl
              obtain ⟨g, q, rfl, hg, r1⟩ := HR.out.1.e.at i _ hx2
              obtain ⟨g', q', rfl, hg', r1'⟩ := HR.out.2.1.e.at i _ hx2
              have l1 := ld_P wr g (q + i * 2) _ rfl (range_block r1 (bw.block _ hg))
              have l2 := ld_P wr g' (q' + i * 2) _ rfl (range_block r1' (bw.block _ hg'))
              have l3 := ld_P wr.drew g (q + i * 2) _ rfl (range_block r1 (bw.block _ hg))
              have l4 := ld_P wr.drew g' (q' + i * 2) _ rfl (range_block r1' (bw.block _ hg'))
              unfold eR at l1 l2 l3 l4
              have e1 : wr.drew.cell? ⟨W.heap.size, 6, none⟩ = some (.slice (some ⟨g, q, none⟩) le ce) := k6
              have e2 : wr.drew.cell? ⟨W.heap.size + 1, 6, none⟩ = some (.slice (some ⟨g', q', none⟩) le ceq) := m6
              have hi0 : (0 : Int) ≤ (i : Int) := by omega
              have hi1 : (i : Int) < (le : Int) := by omega
              have w1 : IntKind.i64.wrap ((i : Int) + 1) = (i : Int) + 1 := by rw [IntKind.wrap_i64]; have := HM.out; omega
              have HK : Hid (i < le) := hi
              clear hi hx hx2 hg hg' r1 r1' bw k0 k1 k2 k5 m0 m1 m2 m5
              go_wp2_with fail
              go_region
              go_wp2_with fail
              go_roundw
              case rel => exact ⟨i + 1, by go_num, HK.out, (HE.out _ HI.out.2).2.1 1⟩
              case measure => have := HK.out; simp [intOf]; omega
            · have hi2 : ¬ ((i : Int) < (le : Int)) := by omega
              clear hi bw
              go_wp2_with fail
              have HN4 : Hid (EB wr) := HI.out.2
              have bw' := (HE.out wr HI.out.2).1
              have mxs : R.s.length ≤ MX := by have := HR.out.2.2.2.2.1; unfold MX; omega
              have mxa : R.a.length ≤ MX := by have := HR.out.2.2.2.2.2.1; unfold MX; omega
              have T1 : Hid (∀ w, Below W.heap.size W w → Calls Try.prog 17 #[.slice xs lss cs, .slice xsq lss csq] w fun e w' => e = .returned (.bool true) ∧ ∃ m, w' = w.drewN m) := fun w hw => texts_eq w _ _ R.s (HR.out.1.s.below hw) (HR.out.2.1.s.below hw) mxs
              have T2 : Hid (∀ w, Below W.heap.size W w → Calls Try.prog 17 #[.slice xa la ca, .slice xaq la caq] w fun e w' => e = .returned (.bool true) ∧ ∃ m, w' = w.drewN m) := fun w hw => texts_eq w _ _ R.a (HR.out.1.a.below hw) (HR.out.2.1.a.below hw) mxa
              have HBW : Hid (Below W.heap.size W wr) := bw'
              clear bw' mxs mxa
              refine Calls.mono (T1.out _ HBW.out) ?_
              rintro en w2 ⟨rfl, m, rfl⟩
              go_wp2_with fail
              refine Calls.mono (T2.out _ (HE.out _ ((HE.out _ HN4.out).2.1 m)).1) ?_
              rintro en w3 ⟨rfl, m', rfl⟩
              go_wp2_with fail
              go_ret
              exact ⟨rfl, (HE.out _ ((HE.out _ HN4.out).2.1 (m + m'))).1⟩
end
end Go.Proofs.Ytcggaiplepekdaa
