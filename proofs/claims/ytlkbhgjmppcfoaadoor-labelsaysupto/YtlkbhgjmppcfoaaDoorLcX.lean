/- LabelCalls: the walk. -/
import Derived.Test.YtlkbhgjmppcfoaaDoorLcR
import Derived.Test.YtlkbhgjmppcfoaaDoorWorks
import Derived.Deep.DeepCutAuto
namespace Go.Proofs.YtlkbhgjmppcfoaaDoor
open Go.RowKit Go.Shelf Go.Sort Go.Proofs.YtlkbhgjmppcfoaaDoor.Sha
/-- What Say answers. -/
def sT (f : Fg) : ByteArray := if chkV f = 0 then sayT f else ⟨#[]⟩
theorem say_c (f : Fg) (w : World) (hk : Tk w) (hx : Tx w) (hv0 : Ls f.v f.L w) :
    Calls Tryd.prog 5 #[.agg (fing f)] w fun e w' => e = .returned (.tuple #[.string (sT f), .int .i64 ((chkV f : Nat) : Int)]) ∧ Below w.heap.size w w' := by
  have h : sayV f = .tuple #[.string (sT f), .int .i64 ((chkV f : Nat) : Int)] := by
    unfold sayV sT
    by_cases h : chkV f = 0
    · rw [if_pos h, if_pos h, h]; rfl
    · rw [if_neg h, if_neg h]; rfl
  rw [← h]
  exact say_any f w hk hx hv0
theorem fgT_congr (f : Fg) (n : ByteArray) {Y Z : List Nat} (h : Y = Z) (hY : Y.length = 32) (bY : Byt Y) (hZ : Z.length = 32) (bZ : Byt Z) : fgT f Y hY bY n = fgT f Z hZ bZ n := by
  subst h
  rfl
/-- The finger's block and a label's. -/
structure P1 (f : Fg) (r : Nat) (A : Array Value) (w W : World) : Prop where
  bel : Below w.heap.size w W
  row : W.heap[w.heap.size]? = some (.cells (fing f) 26 (0, 0))
  lb : W.heap[r]? = some (.cells A 34 (0, 0))
theorem P1.below {f : Fg} {r : Nat} {A : Array Value} {w W W' : World} (h : P1 f r A w W) (b : Below W.heap.size W W') : P1 f r A w W' :=
  ⟨h.bel.trans (b.mono h.bel.size), (b.block _ (Array.getElem?_eq_some_iff.1 h.row).1).trans h.row, (b.block _ (Array.getElem?_eq_some_iff.1 h.lb).1).trans h.lb⟩
theorem below_drew (W : World) : Below W.heap.size W W.drew := ⟨rfl, rfl, rfl, Nat.le_refl _, fun _ _ => rfl⟩
/-- While the region's operations come. -/
structure Rs (P : World → Prop) (v : Value) (bT : List Nat) (Wd : World) (l : Array Bool) (W : World) : Prop where
  p : P W
  w0 : l.getD 16 false = false → W = Wd
  two : l.getD 17 false = true → l.getD 16 false = true
  by_ : l.getD 16 false = true → YtlkbhgjmppcfoaaDoor.Byl v bT W
theorem Rs.mv {P : World → Prop} {v : Value} {bT : List Nat} {Wd : World} {l : Array Bool} {W : World} (h : Rs P v bT Wd l W) (i : Nat) (h1 : i ≠ 16) (h2 : i ≠ 17) : Rs P v bT Wd (l.setIfInBounds i true) W :=
  ⟨h.p, fun a => h.w0 (by rw [set_ne _ _ _ h1] at a; exact a), fun a => by rw [set_ne _ _ _ h1]; rw [set_ne _ _ _ h2] at a; exact h.two a, fun a => h.by_ (by rw [set_ne _ _ _ h1] at a; exact a)⟩
theorem rs_0 {P : World → Prop} {v : Value} {bT : List Nat} {Wd : World} {k : Nat} (h : P Wd) : Rs P v bT Wd (Array.replicate k false) Wd :=
  ⟨h, fun _ => rfl, fun a => (by rw [rep_false] at a; cases a), fun a => (by rw [rep_false] at a; cases a)⟩
/-- The finger's block, a sum's, two labels'. -/
structure Gq (f : Fg) (Z : List Nat) (gs ga gb : Nat) (A B : Array Value) (w W : World) : Prop where
  bel : Below w.heap.size w W
  row : W.heap[w.heap.size]? = some (.cells (fing f) 26 (0, 0))
  s : W.heap[gs]? = some (.cells (bs Z) 24 (0, 0))
  a : W.heap[ga]? = some (.cells A 34 (0, 0))
  b : W.heap[gb]? = some (.cells B 34 (0, 0))
  sa : w.heap.size < gs ∧ gs < ga ∧ ga < gb
theorem Gq.below {f : Fg} {Z : List Nat} {gs ga gb : Nat} {A B : Array Value} {w W W' : World} (h : Gq f Z gs ga gb A B w W) (b : Below W.heap.size W W') : Gq f Z gs ga gb A B w W' :=
  ⟨h.bel.trans (b.mono h.bel.size), (b.block _ (Array.getElem?_eq_some_iff.1 h.row).1).trans h.row, (b.block _ (Array.getElem?_eq_some_iff.1 h.s).1).trans h.s, (b.block _ (Array.getElem?_eq_some_iff.1 h.a).1).trans h.a, (b.block _ (Array.getElem?_eq_some_iff.1 h.b).1).trans h.b, h.sa⟩
theorem Gq.setA {f : Fg} {Z : List Nat} {gs ga gb : Nat} {A B : Array Value} {w W : World} (h : Gq f Z gs ga gb A B w W) (A' : Array Value) : Gq f Z gs ga gb A' B w (W.setRow ga A') :=
  have q := h.sa
  ⟨below_setRow h.bel (by omega) _, (setRow_other _ _ _ _ (by omega)).trans h.row, (setRow_other _ _ _ _ (by omega)).trans h.s, setRow_heap _ _ _ _ _ _ h.a, (setRow_other _ _ _ _ (by omega)).trans h.b, q⟩
theorem Gq.setB {f : Fg} {Z : List Nat} {gs ga gb : Nat} {A B : Array Value} {w W : World} (h : Gq f Z gs ga gb A B w W) (B' : Array Value) : Gq f Z gs ga gb A B' w (W.setRow gb B') :=
  have q := h.sa
  ⟨below_setRow h.bel (by omega) _, (setRow_other _ _ _ _ (by omega)).trans h.row, (setRow_other _ _ _ _ (by omega)).trans h.s, (setRow_other _ _ _ _ (by omega)).trans h.a, setRow_heap _ _ _ _ _ _ h.b, q⟩
theorem eq_same (H : List Nat) (N : ByteArray) (h : H.length = 20) (W : World) : (eqR (.agg (lab H N)) (.agg (lab H N))).run Tryd.prog W = .ok true W := by
  have := run_eqR W H H N N h h
  rw [decide_eq_true ⟨rfl, rfl⟩] at this
  exact this
theorem eq_hash (F : List Nat) (h : F.length = 20) (W : World) : (Op.equalIn 10000 32 (.agg (bs F)) (.agg (bs F))).run Tryd.prog W = .ok true W := by
  have := run_equalIn_bs (P := Tryd.prog) W 9998 Tryd.underlying32 Tryd.underlying5 size5 F F h h
  rw [decide_eq_true rfl] at this
  exact this
attribute [local go_sem ↓] to25s to25l toEq toBuildF toSuL toSs toCv toFl
set_option maxRecDepth 100000 in
set_option maxHeartbeats 8000000 in
theorem calls_any (f : Fg) (n : ByteArray) (d : List Nat) (hd : d.length ≤ 140737488355328) (hdb : Byt d) (dv : Value) (sf : Bool) (w : World) (hk : Tk w) (hx : Tx w) (ht : Tb w) (hv0 : Ls f.v f.L w) (hy : YtlkbhgjmppcfoaaDoor.Byl dv d w) :
    Calls Tryd.prog 3 #[.agg (fing f), .string n, dv, .bool sf] w fun e w' => e = .returned (.bool true) ∧ Below w.heap.size w w' := by
  obtain ⟨q, c, hvv, -, -⟩ := hv0.form
  obtain ⟨qd, cd, hdv, -, -, -⟩ := hy.form
  have HT : Hid (∀ W, Below w.heap.size w W → Tk W ∧ Tx W ∧ Tb W ∧ Ls f.v f.L W ∧ YtlkbhgjmppcfoaaDoor.Byl dv d W) := fun W h => ⟨hk.below h hk.sz, hx.below h hx.sz, ht.below h ht.sz, hv0.below h, hy.below h⟩
  obtain ⟨W0, hW0⟩ : ∃ W0, w.alloc (.cells (fing f) 26) = W0 := ⟨_, rfl⟩
  have b0 : Below w.heap.size w W0 := by rw [← hW0]; exact (Below.refl _ w).alloc (Nat.le_refl _) _
  have r0 : W0.heap[w.heap.size]? = some (.cells (fing f) 26 (0, 0)) := by rw [← hW0]; exact heap_alloc_new w _
  have ld := run_ldF W0 w.heap.size f r0
  rw [← hW0] at ld
  obtain ⟨T, hT⟩ : ∃ T, T = sT f := ⟨_, rfl⟩
  obtain ⟨E, hE⟩ : ∃ E, E = chkV f := ⟨_, rfl⟩
  have C0 := say_c f W0 (HT.out W0 b0).1 (HT.out W0 b0).2.1 (HT.out W0 b0).2.2.2.1
  rw [← hT, ← hE] at C0
  have HC0 : Hid _ := C0
  have HTT : Hid (T = sT f ∧ E = chkV f) := ⟨hT, hE⟩
  have HW0 : Hid (w.alloc (.cells (fing f) 26) = W0) := hW0
  have H0 : Hid (Below w.heap.size w W0 ∧ W0.heap[w.heap.size]? = some (.cells (fing f) 26 (0, 0))) := ⟨b0, r0⟩
  obtain ⟨LH, hLH⟩ : ∃ LH, LH = cH f := ⟨_, rfl⟩
  obtain ⟨LN, hLN⟩ : ∃ LN, LN = cN f := ⟨_, rfl⟩
  have HLL : Hid (LH = cH f ∧ LN = cN f) := ⟨hLH, hLN⟩
  have HL20 : Hid (LH.length = 20) := by show _ = _; rw [hLH]; exact cH_len f
  have HVV : Hid (f.v = .slice q f.L.length c) := hvv
  have HDV : Hid (dv = .slice qd d.length cd) := hdv
  rw [hdv]
  clear hW0 b0 r0 C0 hT hE hk hx ht hv0 hy hLH hLN hvv hdv
  go_enter Tryd.func3, Tryd.ntmps3
  go_wp2_with fail
  rw [HW0.out]
  refine Calls.mono HC0.out ?_
  rintro e W1 ⟨rfl, b1⟩
  have H1 : Hid (Below w.heap.size w W1 ∧ W1.heap[w.heap.size]? = some (.cells (fing f) 26 (0, 0))) := ⟨H0.out.1.trans (b1.mono H0.out.1.size), (b1.block _ (Array.getElem?_eq_some_iff.1 H0.out.2).1).trans H0.out.2⟩
  clear HC0 ld b1 H0 HW0
  have ld := run_ldF W1 w.heap.size f H1.out.2
  have C1 := call_c f W1 (HT.out W1 H1.out.1).1 (HT.out W1 H1.out.1).2.1 (HT.out W1 H1.out.1).2.2.1 (HT.out W1 H1.out.1).2.2.2.1
  rw [← HLL.out.1, ← HLL.out.2, ← HTT.out.2] at C1
  have HC1 : Hid _ := C1
  clear C1
  go_wp2_with fail
  refine Calls.mono HC1.out ?_
  rintro e W2 ⟨rfl, b2⟩
  obtain ⟨W3, s3, r3, b3⟩ := layL W2 LH LN HL20.out
  obtain ⟨r, hr⟩ : ∃ r, r = W2.heap.size := ⟨_, rfl⟩
  rw [← hr] at s3 r3
  have H3 : Hid (P1 f r (lab LH LN) w W3) := by
    have q1 : Below w.heap.size w W2 := H1.out.1.trans (b2.mono H1.out.1.size)
    have q2 := (b2.block _ (Array.getElem?_eq_some_iff.1 H1.out.2).1).trans H1.out.2
    exact ⟨q1.trans (b3.mono q1.size), (b3.block _ (Array.getElem?_eq_some_iff.1 q2).1).trans q2, r3⟩
  have s3' := s3
  rw [hr] at s3'
  clear HC1 ld b2 b3 r3 H1 s3
  go_upto_region 3 with fail
  rw [← hr]
  clear s3' hr
  go_cut [59] (fun s wc => s = .bool false ∧ Hid (P1 f r (lab LH LN) w wc))
  case first =>
    by_cases h0 : E = 0
    · subst h0
      have hchk : chkV f = 0 := HTT.out.2.symm
      have hTs : T.size ≤ 71000 := by
        have ok := ok_of hchk
        have hX : (str (hexL f.sm)).size = 64 := by rw [str_size, hexL_len]; have := f.hl; omega
        have hns := okN_size f.nm ok.nm
        have hh := head_size ok
        rw [HTT.out.1, sT, if_pos hchk, sayT, app_size, app_size, app_size, app_size, hX]
        show (headT f).size + 8 + 64 + 14 + f.nm.size ≤ 71000
        omega
      have hLN : LN = f.nm := by rw [HLL.out.2, cN, if_pos hchk]
      have hLH : LH = Big.fold (sha (bl T)) := by rw [HLL.out.1, cH, if_pos hchk, HTT.out.1, sT, if_pos hchk]; rfl
      obtain ⟨Z, hZ⟩ : ∃ Z, Z = sha (bl T) := ⟨_, rfl⟩
      have HFO : Hid (∀ W, Calls Tryd.prog 7 #[.agg (bs Z)] W fun e w' => e = .returned (.agg (bs LH)) ∧ Below W.heap.size W w') := fun W => by
        have := Big.foldC_any Z (by rw [hZ]; exact sha_len _) (by rw [hZ]; exact sha_byt _) W
        rw [hLH, ← hZ]
        exact this
      have HOF : Hid (∀ W v, Tb W → YtlkbhgjmppcfoaaDoor.Byl v (bl T) W → Calls Tryd.prog 8 #[v] W fun e w' => e = .returned (.agg (bs Z)) ∧ Below W.heap.size W w') := fun W v h1 h2 => by
        have := of_tb (bl T) v (by rw [bl_len]; omega) (bl_byt T) W h1 h2
        rw [← hZ] at this
        exact this
      obtain ⟨cc, W4, rcv, hby, hb4⟩ := run_cvb W3.drew T (by omega)
      have P3 : P1 f r (lab LH LN) w W3.drew := H3.out.below (below_drew W3)
      subst hLN
      refine wp_region_vals (ops := reg3) (V := V3a w.heap.size r W3.drew.heap.size T.size cc T f.nm Z LH) (S := Rs (P1 f r (lab LH f.nm) w) (.slice (some ⟨W3.drew.heap.size, 0, none⟩) T.size cc) (bl T) W3.drew) (by kernel_rfl) (fun i o ho => (okR_at okR3 ho).1) (fun i j o oj d ho hj q1 q2 => (okR_at okR3 ho).2.2 j oj d hj q1 q2) (fun i o d ho q => (okR_at okR3 ho).2.1 d q)
        (step3a _ w.heap.size r W3.drew.heap.size T.size cc T f.nm Z LH _ _ rfl rfl rfl rfl rfl
          (fun i hi l W h => by have hi := of_decide_eq_true hi; exact h.mv i hi.1 hi.2)
          (fun l W h hs hu hd => by
            have h1 := hd 16 (by kernel_rfl)
            exact (HOF.out W _ (HT.out W h.p.bel).2.2.1 (h.by_ h1)).mono fun e w' ⟨a, b⟩ => ⟨a, ⟨h.p.below b, (fun x => by rw [set_ne _ _ _ (by omega), h1] at x; cases x), fun _ => set_up _ _ _ h1, fun _ => (h.by_ h1).below b⟩⟩)
          (fun l W h hs hu hd => by
            have h1 := h.two (hd 17 (by kernel_rfl))
            exact (HFO.out W).mono fun e w' ⟨a, b⟩ => ⟨a, ⟨h.p.below b, (fun x => by rw [set_ne _ _ _ (by omega), h1] at x; cases x), fun _ => set_up _ _ _ h1, fun _ => (h.by_ h1).below b⟩⟩)
          (fun l W h hs hu hd => by
            have : W.cell? ⟨r, 20, none⟩ = some (.string f.nm) := by rw [cell_of_row _ _ _ _ _ _ h.p.lb, lab_name LH f.nm HL20.out]
            exact ⟨W, by simp [go_sem, this], h.mv 8 (by omega) (by omega)⟩)
          (fun l W h hs hu hd => by
            have := (fing_cells h.p.row).2.2.2.2.2
            exact ⟨W, by simp [go_sem, this], h.mv 10 (by omega) (by omega)⟩)
          (fun l W h hs hu hd => ⟨W, run_loadR23 W r LH f.nm h.p.lb HL20.out, h.mv 14 (by omega) (by omega)⟩)
          (fun l W h hs hu hd => by
            have h10 := un_false l 16 32 (by rw [hs]; kernel_rfl) (by omega) hu
            obtain rfl := h.w0 h10
            refine ⟨W4, rcv, ⟨h.p.below hb4, fun a => ?_, fun _ => set_eq _ _ (by rw [hs]; decide +kernel), fun _ => hby⟩⟩
            rw [set_eq _ _ (by rw [hs]; decide +kernel)] at a
            cases a)
          (fun W => eq_hash LH HL20.out W)) (rs_0 P3) (fun wE hE => ?_)
      rw [put3]
      dsimp only [V3a]
      have HE : Hid (P1 f r (lab LH f.nm) w wE) := hE.p
      clear hE rcv hby hb4 P3
      go_wp2_with fail
      go_meet
      case rel => exact ⟨rfl, HE⟩
    · have hchk : ¬ chkV f = 0 := by rw [← HTT.out.2]; exact h0
      have hLN : LN = ⟨#[]⟩ := by rw [HLL.out.2, cN, if_neg hchk]
      have hLH : LH = z20 := by rw [HLL.out.1, cH, if_neg hchk]
      subst hLN hLH
      have P3 : P1 f r (lab z20 ⟨#[]⟩) w W3.drew := H3.out.below (below_drew W3)
      refine wp_region_vals (ops := reg3) (V := V3b (E : Int)) (S := fun _ => P1 f r (lab z20 ⟨#[]⟩) w) (by kernel_rfl) (fun i o ho => (okR_at okR3 ho).1) (fun i j o oj d ho hj q1 q2 => (okR_at okR3 ho).2.2 j oj d hj q1 q2) (fun i o d ho q => (okR_at okR3 ho).2.1 d q)
        (step3b _ r (E : Int) _ _ rfl rfl rfl (fun _ _ _ _ h => h)
          (fun l W h hs hu hd => ⟨W, run_loadR25 W r z20 ⟨#[]⟩ h.lb rfl, h⟩)
          (fun l W h hs hu hd => ⟨W, run_build0 W, h⟩)
          (fun W => eq_same z20 ⟨#[]⟩ rfl W) (by simpa using h0) (by simpa using h0)) P3 (fun wE hE => ?_)
      rw [put3]
      dsimp only [V3b]
      have HE : Hid (P1 f r (lab z20 ⟨#[]⟩) w wE) := hE
      clear hE P3
      go_wp2_with fail
      go_meet
      case rel => exact ⟨rfl, HE⟩
  case rest =>
    obtain ⟨rfl, H4⟩ := hcut
    clear H3 HLL HL20 HTT
    have CW := works_any wc (HT.out wc H4.out.bel).2.1
    have HCW : Hid _ := CW
    clear CW
    go_wp2_with fail
    refine Calls.mono HCW.out ?_
    rintro e W5 ⟨rfl, b5⟩
    have H5 : Hid (Below w.heap.size w W5 ∧ W5.heap[w.heap.size]? = some (.cells (fing f) 26 (0, 0))) := ⟨H4.out.bel.trans (b5.mono H4.out.bel.size), (b5.block _ (Array.getElem?_eq_some_iff.1 H4.out.row).1).trans H4.out.row⟩
    obtain ⟨Z, hZ⟩ : ∃ Z, Z = sha d := ⟨_, rfl⟩
    have hZl : Z.length = 32 := by rw [hZ]; exact sha_len d
    have hZb : Byt Z := by rw [hZ]; exact sha_byt d
    have COF := of_tb d dv (by omega) hdb W5 (HT.out W5 H5.out.1).2.2.1 (HT.out W5 H5.out.1).2.2.2.2
    rw [HDV.out, ← hZ] at COF
    have HCO : Hid _ := COF
    clear COF HCW b5 H4
    go_wp2_with fail
    refine Calls.mono HCO.out ?_
    rintro e W6 ⟨rfl, b6⟩
    have H6 : Hid (Below w.heap.size w W6 ∧ W6.heap[w.heap.size]? = some (.cells (fing f) 26 (0, 0))) := ⟨H5.out.1.trans (b6.mono H5.out.1.size), (b6.block _ (Array.getElem?_eq_some_iff.1 H5.out.2).1).trans H5.out.2⟩
    obtain ⟨W7, s7, r7, b7⟩ := layS W6 Z hZl
    have H7 : Hid (Below w.heap.size w W7 ∧ W7.heap[w.heap.size]? = some (.cells (fing f) 26 (0, 0)) ∧ W7.heap[W6.heap.size]? = some (.cells (bs Z) 24 (0, 0)) ∧ w.heap.size < W6.heap.size ∧ W6.heap.size < W7.heap.size) := ⟨H6.out.1.trans (b7.mono H6.out.1.size), (b7.block _ (Array.getElem?_eq_some_iff.1 H6.out.2).1).trans H6.out.2, r7, (Array.getElem?_eq_some_iff.1 H6.out.2).1, (Array.getElem?_eq_some_iff.1 r7).1⟩
    obtain ⟨q0, q1, q2, q3, q4, q37⟩ := fing_cells H7.out.2.1
    rw [HVV.out] at q1
    have HZ : Hid (Z.length = 32 ∧ Byt Z) := ⟨hZl, hZb⟩
    have hix : -9223372036854775808 ≤ (d.length : Int) ∧ (d.length : Int) ≤ 9223372036854775807 := by omega
    obtain ⟨F1, hF1⟩ : ∃ F, F = fgT f Z HZ.out.1 HZ.out.2 n := ⟨_, rfl⟩
    have HF1 : Hid (F1 = fgT f Z HZ.out.1 HZ.out.2 n) := hF1
    have HL1 : Hid ((cH F1).length = 20) := cH_len F1
    obtain ⟨F2, hF2⟩ : ∃ F, F = fgS f sf Z HZ.out.1 HZ.out.2 n := ⟨_, rfl⟩
    have HF2 : Hid (F2 = fgS f sf Z HZ.out.1 HZ.out.2 n) := hF2
    have HL2 : Hid ((cH F2).length = 20) := cH_len F2
    obtain ⟨F3, hF3⟩ : ∃ F, F = fgS fgN false Z HZ.out.1 HZ.out.2 n := ⟨_, rfl⟩
    have HF3 : Hid (F3 = fgS fgN false Z HZ.out.1 HZ.out.2 n) := hF3
    have HL3 : Hid ((cH F3).length = 20) := cH_len F3
    obtain ⟨F4, hF4⟩ : ∃ F, F = fgO (fixZ Z) (sha_len _) (sha_byt _) n := ⟨_, rfl⟩
    have HF4 : Hid (F4 = fgO (fixZ Z) (sha_len _) (sha_byt _) n) := hF4
    have HL4 : Hid ((cH F4).length = 20) := cH_len F4
    obtain ⟨F5, hF5⟩ : ∃ F, F = fgM (d.length : Int) hix Z HZ.out.1 HZ.out.2 n := ⟨_, rfl⟩
    have HF5 : Hid (F5 = fgM (d.length : Int) hix Z HZ.out.1 HZ.out.2 n) := hF5
    have HL5 : Hid ((cH F5).length = 20) := cH_len F5
    have hfg1 : fing F1 = fcell 1 (.slice q f.L.length c) false ⟨#[]⟩ 0 Z n := by rw [hF1, ← HVV.out]; simp only [fing, fgT, fcell]
    have hfg2 : fing F2 = fcell 2 (.slice q f.L.length c) sf ⟨#[]⟩ 0 Z n := by rw [hF2, ← HVV.out]; simp only [fing, fgS, fcell]
    have hfg5 : fing F5 = fcell 4 (.slice none 0 0) false ⟨#[]⟩ (d.length : Int) Z n := by rw [hF5]; simp only [fing, fgM, fcell]
    have hbu1 : ∀ W, (buildF #[(0, .int .i64 1), (1, .slice q f.L.length c), (5, .agg (bs Z)), (6, .string n)]).run Tryd.prog W = .ok (.agg (fing F1)) W := fun W => by rw [hfg1]; exact run_build W 26 _ _ (bt1 Z hZl q f.L.length c n)
    have hbu2 : ∀ W, (buildF #[(0, .int .i64 2), (1, .slice q f.L.length c), (2, .bool sf), (5, .agg (bs Z)), (6, .string n)]).run Tryd.prog W = .ok (.agg (fing F2)) W := fun W => by rw [hfg2]; exact run_build W 26 _ _ (bt2 Z hZl q f.L.length c sf n)
    have hbu5 : ∀ W, (buildF #[(0, .int .i64 4), (4, .int .i64 (d.length : Int)), (5, .agg (bs Z)), (6, .string n)]).run Tryd.prog W = .ok (.agg (fing F5)) W := fun W => by rw [hfg5]; exact run_build W 26 _ _ (bt4 Z hZl (d.length : Int) n)
    have HCC : Hid (∀ F : Fg, (F = F1 ∨ F = F2 ∨ F = F4 ∨ F = F5) → ∀ W, Below w.heap.size w W → Calls Tryd.prog 6 #[.agg (fing F)] W fun e w' => e = .returned (.tuple #[.agg (lab (cH F) (cN F)), .int .i64 ((chkV F : Nat) : Int)]) ∧ Below W.heap.size W w') := by
      intro F hF W hW
      refine call_c F W (HT.out W hW).1 (HT.out W hW).2.1 (HT.out W hW).2.2.1 ?_
      rcases hF with rfl | rfl | rfl | rfl
      · rw [HF1.out]; exact (HT.out W hW).2.2.2.1
      · rw [HF2.out]; exact (HT.out W hW).2.2.2.1
      · rw [HF4.out]; exact ls_nil W
      · rw [HF5.out]; exact ls_nil W
    have CT := text_any f d (by omega) hdb dv n W7 (HT.out W7 H7.out.1).1 (HT.out W7 H7.out.1).2.1 (HT.out W7 H7.out.1).2.2.1 (HT.out W7 H7.out.1).2.2.2.1 (HT.out W7 H7.out.1).2.2.2.2
    have hfe : fgT f (sha d) (sha_len d) (sha_byt d) n = F1 := (fgT_congr f n hZ.symm _ _ _ _).trans hF1.symm
    rw [hfe, callV_eq, HDV.out, HVV.out] at CT
    have HCT : Hid _ := CT
    clear CT hfe hF1 hF2 hF3 hF4 hF5 hfg1 hfg2 hfg5 hZ b6 b7 r7 HCO H5 H6 hZl hZb
    go_wp2_with fail
    refine Calls.mono HCT.out ?_
    rintro e W8 ⟨rfl, b8⟩
    obtain ⟨W9, s9, r9, b9⟩ := layL W8 (cH F1) (cN F1) HL1.out
    have H9 : Hid (Below w.heap.size w W9 ∧ W9.heap[w.heap.size]? = some (.cells (fing f) 26 (0, 0)) ∧ W9.heap[W6.heap.size]? = some (.cells (bs Z) 24 (0, 0)) ∧ W9.heap[W8.heap.size]? = some (.cells (lab (cH F1) (cN F1)) 34 (0, 0)) ∧ w.heap.size < W6.heap.size ∧ W6.heap.size < W8.heap.size) := by
      obtain ⟨e1, e2, e3, e4, e5⟩ := H7.out
      have b89 := b8.trans (b9.mono b8.size)
      refine ⟨e1.trans (b89.mono e1.size), (b89.block _ (Array.getElem?_eq_some_iff.1 e2).1).trans e2, (b89.block _ (Array.getElem?_eq_some_iff.1 e3).1).trans e3, r9, e4, ?_⟩
      have := b8.size
      omega
    clear HCT q0 q1 q2 q3 q4 q37 b8 b9 r9 H7 s7
    obtain ⟨q0, q1, q2, q3, q4, q37⟩ := fing_cells H9.out.2.1
    rw [HVV.out] at q1
    have lS := run_ldS W9 W6.heap.size Z H9.out.2.2.1 HZ.out.1
    have HC9 : Hid _ := HCC.out F1 (.inl rfl) W9 H9.out.1
    go_wp2_with fail
    obtain ⟨gs, hgs⟩ : ∃ g, W6.heap.size = g := ⟨_, rfl⟩
    obtain ⟨ga, hga⟩ : ∃ g, W8.heap.size = g := ⟨_, rfl⟩
    rw [hgs, hga]
    rw [hgs, hga] at H9
    clear s9 hgs hga lS q0 q1 q2 q3 q4 q37
    refine Calls.mono HC9.out ?_
    rintro e WA ⟨rfl, bA⟩
    obtain ⟨WB, sB, rB, bB⟩ := layL WA (cH F1) (cN F1) HL1.out
    have GB : Hid (Gq f Z gs ga WA.heap.size (lab (cH F1) (cN F1)) (lab (cH F1) (cN F1)) w WB) := by
      obtain ⟨e1, e2, e3, e4, e5, e6⟩ := H9.out
      have bAB := bA.trans (bB.mono bA.size)
      refine ⟨e1.trans (bAB.mono e1.size), (bAB.block _ (Array.getElem?_eq_some_iff.1 e2).1).trans e2, (bAB.block _ (Array.getElem?_eq_some_iff.1 e3).1).trans e3, (bAB.block _ (Array.getElem?_eq_some_iff.1 e4).1).trans e4, rB, e5, e6, ?_⟩
      have h1 := (Array.getElem?_eq_some_iff.1 e4).1
      have := bA.size
      omega
    clear HC9 bA bB rB H9
    have la := run_loadR25 WB ga (cH F1) (cN F1) GB.out.a HL1.out
    have lb := run_loadR25 WB WA.heap.size (cH F1) (cN F1) GB.out.b HL1.out
    have heq := eq_same (cH F1) (cN F1) HL1.out WB
    obtain ⟨q0, q1, q2, q3, q4, q37⟩ := fing_cells GB.out.row
    rw [HVV.out] at q1
    have lS := run_ldS WB gs Z GB.out.s HZ.out.1
    have CX := source_any f sf Z HZ.out.1 HZ.out.2 n WB (HT.out WB GB.out.bel).1 (HT.out WB GB.out.bel).2.1 (HT.out WB GB.out.bel).2.2.1 (HT.out WB GB.out.bel).2.2.2.1
    rw [← HF2.out, callV_eq, HVV.out] at CX
    have HX : Hid _ := CX
    clear CX
    go_wp2_with fail
    obtain ⟨gb, hgb⟩ : ∃ g, WA.heap.size = g := ⟨_, rfl⟩
    rw [hgb]
    rw [hgb] at GB
    clear sB lb hgb
    have sB : True := trivial
    have lb : True := trivial
    refine Calls.mono HX.out ?_
    rintro e U2a ⟨rfl, b⟩
    have K2a : Hid (Gq f Z gs ga gb (lab (cH F1) (cN F1)) (lab (cH F1) (cN F1)) w U2a) := GB.out.below b
    have st := run_storeR25 U2a ga (cH F1) (cH F2) (cN F1) (cN F2) K2a.out.a HL1.out HL2.out
    obtain ⟨U2b, hX⟩ : ∃ X, X = U2a.setRow ga (lab (cH F2) (cN F2)) := ⟨_, rfl⟩
    have K2b : Hid (Gq f Z gs ga gb (lab (cH F2) (cN F2)) (lab (cH F1) (cN F1)) w U2b) := by rw [hX]; exact K2a.out.setA _
    rw [← hX] at st
    clear hX b HX q0 q1 q2 q3 q4 q37 lS la lb heq GB K2a sB
    obtain ⟨q0, q1, q2, q3, q4, q37⟩ := fing_cells K2b.out.row
    rw [HVV.out] at q1
    have lS := run_ldS U2b gs Z K2b.out.s HZ.out.1
    have HY : Hid _ := HCC.out F2 (.inr (.inl rfl)) U2b K2b.out.bel
    go_wp2_with fail
    refine Calls.mono HY.out ?_
    rintro e U2c ⟨rfl, b⟩
    have K2c : Hid (Gq f Z gs ga gb (lab (cH F2) (cN F2)) (lab (cH F1) (cN F1)) w U2c) := K2b.out.below b
    have st2 := run_storeR25 U2c gb (cH F1) (cH F2) (cN F1) (cN F2) K2c.out.b HL1.out HL2.out
    obtain ⟨U2d, hX⟩ : ∃ X, X = U2c.setRow gb (lab (cH F2) (cN F2)) := ⟨_, rfl⟩
    have K2d : Hid (Gq f Z gs ga gb (lab (cH F2) (cN F2)) (lab (cH F2) (cN F2)) w U2d) := by rw [hX]; exact K2c.out.setB _
    rw [← hX] at st2
    clear hX b HY q0 q1 q2 q3 q4 q37 lS st K2b K2c
    have la := run_loadR25 U2d ga (cH F2) (cN F2) K2d.out.a HL2.out
    have lb := run_loadR25 U2d gb (cH F2) (cN F2) K2d.out.b HL2.out
    have heq := eq_same (cH F2) (cN F2) HL2.out U2d
    obtain ⟨q0, q1, q2, q3, q4, q37⟩ := fing_cells K2d.out.row
    rw [HVV.out] at q1
    have lS := run_ldS U2d gs Z K2d.out.s HZ.out.1
    have CX := fixed_f Z HZ.out.1 HZ.out.2 n U2d (HT.out U2d K2d.out.bel).1 (HT.out U2d K2d.out.bel).2.1 (HT.out U2d K2d.out.bel).2.2.1
    rw [← HF3.out, callV_eq] at CX
    have HX : Hid _ := CX
    clear CX
    go_wp2_with fail
    refine Calls.mono HX.out ?_
    rintro e U3a ⟨rfl, b⟩
    have K3a : Hid (Gq f Z gs ga gb (lab (cH F2) (cN F2)) (lab (cH F2) (cN F2)) w U3a) := K2d.out.below b
    have st := run_storeR25 U3a ga (cH F2) (cH F3) (cN F2) (cN F3) K3a.out.a HL2.out HL3.out
    obtain ⟨U3b, hX⟩ : ∃ X, X = U3a.setRow ga (lab (cH F3) (cN F3)) := ⟨_, rfl⟩
    have K3b : Hid (Gq f Z gs ga gb (lab (cH F3) (cN F3)) (lab (cH F2) (cN F2)) w U3b) := by rw [hX]; exact K3a.out.setA _
    rw [← hX] at st
    clear hX b HX q0 q1 q2 q3 q4 q37 lS la lb heq K2d K3a st2
    obtain ⟨q0, q1, q2, q3, q4, q37⟩ := fing_cells K3b.out.row
    rw [HVV.out] at q1
    have lS := run_ldS U3b gs Z K3b.out.s HZ.out.1
    have CY := source_any fgN false Z HZ.out.1 HZ.out.2 n U3b (HT.out U3b K3b.out.bel).1 (HT.out U3b K3b.out.bel).2.1 (HT.out U3b K3b.out.bel).2.2.1 (ls_nil U3b)
    rw [← HF3.out, callV_eq] at CY
    have HY : Hid _ := CY
    clear CY
    go_wp2_with fail
    refine Calls.mono HY.out ?_
    rintro e U3c ⟨rfl, b⟩
    have K3c : Hid (Gq f Z gs ga gb (lab (cH F3) (cN F3)) (lab (cH F2) (cN F2)) w U3c) := K3b.out.below b
    have st2 := run_storeR25 U3c gb (cH F2) (cH F3) (cN F2) (cN F3) K3c.out.b HL2.out HL3.out
    obtain ⟨U3d, hX⟩ : ∃ X, X = U3c.setRow gb (lab (cH F3) (cN F3)) := ⟨_, rfl⟩
    have K3d : Hid (Gq f Z gs ga gb (lab (cH F3) (cN F3)) (lab (cH F3) (cN F3)) w U3d) := by rw [hX]; exact K3c.out.setB _
    rw [← hX] at st2
    clear hX b HY q0 q1 q2 q3 q4 q37 lS st K3b K3c
    have la := run_loadR25 U3d ga (cH F3) (cN F3) K3d.out.a HL3.out
    have lb := run_loadR25 U3d gb (cH F3) (cN F3) K3d.out.b HL3.out
    have heq := eq_same (cH F3) (cN F3) HL3.out U3d
    obtain ⟨q0, q1, q2, q3, q4, q37⟩ := fing_cells K3d.out.row
    rw [HVV.out] at q1
    have lS := run_ldS U3d gs Z K3d.out.s HZ.out.1
    have CX := fixed_t Z HZ.out.1 HZ.out.2 n U3d (HT.out U3d K3d.out.bel).1 (HT.out U3d K3d.out.bel).2.1 (HT.out U3d K3d.out.bel).2.2.1
    rw [← HF4.out, callV_eq] at CX
    have HX : Hid _ := CX
    clear CX
    go_wp2_with fail
    refine Calls.mono HX.out ?_
    rintro e U4a ⟨rfl, b⟩
    have K4a : Hid (Gq f Z gs ga gb (lab (cH F3) (cN F3)) (lab (cH F3) (cN F3)) w U4a) := K3d.out.below b
    have st := run_storeR25 U4a ga (cH F3) (cH F4) (cN F3) (cN F4) K4a.out.a HL3.out HL4.out
    obtain ⟨U4b, hX⟩ : ∃ X, X = U4a.setRow ga (lab (cH F4) (cN F4)) := ⟨_, rfl⟩
    have K4b : Hid (Gq f Z gs ga gb (lab (cH F4) (cN F4)) (lab (cH F3) (cN F3)) w U4b) := by rw [hX]; exact K4a.out.setA _
    rw [← hX] at st
    clear hX b HX q0 q1 q2 q3 q4 q37 lS la lb heq K3d K4a st2
    obtain ⟨q0, q1, q2, q3, q4, q37⟩ := fing_cells K4b.out.row
    rw [HVV.out] at q1
    have lS := run_ldS U4b gs Z K4b.out.s HZ.out.1
    obtain ⟨X, hX⟩ : ∃ X, X = str (hexL Z) := ⟨_, rfl⟩
    have hXs : X.size = 64 := by rw [hX, str_size, hexL_len, HZ.out.1]
    obtain ⟨Y, hY⟩ : ∃ Y, Y = sha (bl (fixT Z)) := ⟨_, rfl⟩
    have hYl : Y.length = 32 := by rw [hY]; exact sha_len _
    obtain ⟨XA, hXA⟩ : ∃ XA, (⟨#[102, 105, 120, 101, 100, 58, 111, 117, 116, 58, 115, 104, 97, 50, 53, 54, 58]⟩ : ByteArray) ++ X = XA := ⟨_, rfl⟩
    obtain ⟨T4, hT4⟩ : ∃ T, XA ++ (⟨#[58]⟩ : ByteArray) = T := ⟨_, rfl⟩
    have hTT : T4 = fixT Z := by rw [← hT4, ← hXA, hX]; rfl
    have hTs : T4.size = 82 := by rw [hTT]; exact fixT_size Z HZ.out.1
    have z1 : ¬ (9223372036854775807 < 17 + X.size) := by omega
    have z2 : ¬ (9223372036854775807 < XA.size + 1) := by
      rw [← hXA, app_size, hXs]
      show ¬ (9223372036854775807 < 17 + 64 + 1)
      omega
    have HO4 : Hid (∀ W v, Tb W → YtlkbhgjmppcfoaaDoor.Byl v (bl T4) W → Calls Tryd.prog 8 #[v] W fun e w' => e = .returned (.agg (bs Y)) ∧ Below W.heap.size W w') := fun W v h1 h2 => by
      have := of_tb (bl T4) v (by rw [bl_len]; omega) (bl_byt T4) W h1 h2
      rw [hTT, ← hY] at this
      exact this
    have hfg4 : fing F4 = fcell 3 (.slice none 0 0) false outN 0 Y n := by rw [HF4.out, hY]; simp only [fing, fgO, fcell, fixZ]
    have hbu4 : ∀ W, (buildF #[(0, .int .i64 3), (3, .string ⟨#[111, 117, 116]⟩), (5, .agg (bs Y)), (6, .string n)]).run Tryd.prog W = .ok (.agg (fing F4)) W := fun W => by rw [hfg4]; exact run_build W 26 _ _ (bt3 Y hYl n)
    have CH4 : Hid (Calls Tryd.prog 13 #[.slice (some ⟨gs, 0, none⟩) 32 32] U4b fun e w' => e = .returned (.string X) ∧ Below U4b.heap.size U4b w') := by rw [hX]; exact hexC_any Z HZ.out.2 (by rw [HZ.out.1]; omega) _ U4b (byl_sum K4b.out.s HZ.out.1) (HT.out U4b K4b.out.bel).2.1
    have HTS4 : Hid (T4.size = 82) := hTs
    clear hX hXs hY hYl hTT hTs hfg4
    go_wp2_with fail
    refine Calls.mono CH4.out ?_
    rintro e V1 ⟨rfl, b⟩
    have J1 : Hid (Gq f Z gs ga gb (lab (cH F4) (cN F4)) (lab (cH F3) (cN F3)) w V1) := K4b.out.below b
    obtain ⟨c4, V2, rcv, hby, hb2⟩ := run_cvb V1 T4 (by rw [HTS4.out]; omega)
    have rcv' : (cvR (.string T4)).run Tryd.prog V1 = .ok (.slice (some ⟨V1.heap.size, 0, none⟩) T4.size c4) V2 := rcv
    have J2 : Hid (Gq f Z gs ga gb (lab (cH F4) (cN F4)) (lab (cH F3) (cN F3)) w V2) := J1.out.below hb2
    have CO4 : Hid _ := HO4.out V2 _ (HT.out V2 J2.out.bel).2.2.1 hby
    clear CH4 b hb2 hby rcv K4b J1 q0 q1 q2 q3 q4 q37 lS st
    go_wp2_with fail
    refine Calls.mono CO4.out ?_
    rintro e V3 ⟨rfl, b⟩
    have J3 : Hid (Gq f Z gs ga gb (lab (cH F4) (cN F4)) (lab (cH F3) (cN F3)) w V3) := J2.out.below b
    have HY : Hid _ := HCC.out F4 (.inr (.inr (.inl rfl))) V3 J3.out.bel
    clear CO4 b rcv' J2 z1 z2 hXA hT4 HO4 HTS4
    have st : True := trivial
    obtain ⟨q0, q1, q2, q3, q4, q37⟩ := fing_cells J3.out.row
    rw [HVV.out] at q1
    have lS := run_ldS V3 gs Z J3.out.s HZ.out.1
    go_wp2_with fail
    refine Calls.mono HY.out ?_
    rintro e U4c ⟨rfl, b⟩
    have K4c : Hid (Gq f Z gs ga gb (lab (cH F4) (cN F4)) (lab (cH F3) (cN F3)) w U4c) := J3.out.below b
    have st2 := run_storeR25 U4c gb (cH F3) (cH F4) (cN F3) (cN F4) K4c.out.b HL3.out HL4.out
    obtain ⟨U4d, hX⟩ : ∃ X, X = U4c.setRow gb (lab (cH F4) (cN F4)) := ⟨_, rfl⟩
    have K4d : Hid (Gq f Z gs ga gb (lab (cH F4) (cN F4)) (lab (cH F4) (cN F4)) w U4d) := by rw [hX]; exact K4c.out.setB _
    rw [← hX] at st2
    clear hX b HY q0 q1 q2 q3 q4 q37 lS st J3 K4c
    have la := run_loadR25 U4d ga (cH F4) (cN F4) K4d.out.a HL4.out
    have lb := run_loadR25 U4d gb (cH F4) (cN F4) K4d.out.b HL4.out
    have heq := eq_same (cH F4) (cN F4) HL4.out U4d
    obtain ⟨q0, q1, q2, q3, q4, q37⟩ := fing_cells K4d.out.row
    rw [HVV.out] at q1
    have lS := run_ldS U4d gs Z K4d.out.s HZ.out.1
    have CX := member_any (d.length : Int) hix Z HZ.out.1 HZ.out.2 n U4d (HT.out U4d K4d.out.bel).1 (HT.out U4d K4d.out.bel).2.1 (HT.out U4d K4d.out.bel).2.2.1
    rw [← HF5.out, callV_eq] at CX
    have HX : Hid _ := CX
    clear CX
    go_wp2_with fail
    refine Calls.mono HX.out ?_
    rintro e U5a ⟨rfl, b⟩
    have K5a : Hid (Gq f Z gs ga gb (lab (cH F4) (cN F4)) (lab (cH F4) (cN F4)) w U5a) := K4d.out.below b
    have st := run_storeR25 U5a ga (cH F4) (cH F5) (cN F4) (cN F5) K5a.out.a HL4.out HL5.out
    obtain ⟨U5b, hX⟩ : ∃ X, X = U5a.setRow ga (lab (cH F5) (cN F5)) := ⟨_, rfl⟩
    have K5b : Hid (Gq f Z gs ga gb (lab (cH F5) (cN F5)) (lab (cH F4) (cN F4)) w U5b) := by rw [hX]; exact K5a.out.setA _
    rw [← hX] at st
    clear hX b HX q0 q1 q2 q3 q4 q37 lS la lb heq K4d K5a st2
    obtain ⟨q0, q1, q2, q3, q4, q37⟩ := fing_cells K5b.out.row
    rw [HVV.out] at q1
    have lS := run_ldS U5b gs Z K5b.out.s HZ.out.1
    have HY : Hid _ := HCC.out F5 (.inr (.inr (.inr rfl))) U5b K5b.out.bel
    go_wp2_with fail
    refine Calls.mono HY.out ?_
    rintro e U5c ⟨rfl, b⟩
    have K5c : Hid (Gq f Z gs ga gb (lab (cH F5) (cN F5)) (lab (cH F4) (cN F4)) w U5c) := K5b.out.below b
    have st2 := run_storeR25 U5c gb (cH F4) (cH F5) (cN F4) (cN F5) K5c.out.b HL4.out HL5.out
    obtain ⟨U5d, hX⟩ : ∃ X, X = U5c.setRow gb (lab (cH F5) (cN F5)) := ⟨_, rfl⟩
    have K5d : Hid (Gq f Z gs ga gb (lab (cH F5) (cN F5)) (lab (cH F5) (cN F5)) w U5d) := by rw [hX]; exact K5c.out.setB _
    rw [← hX] at st2
    clear hX b HY q0 q1 q2 q3 q4 q37 lS st K5b K5c
    have la := run_loadR25 U5d ga (cH F5) (cN F5) K5d.out.a HL5.out
    have lb := run_loadR25 U5d gb (cH F5) (cN F5) K5d.out.b HL5.out
    have heq := eq_same (cH F5) (cN F5) HL5.out U5d
    obtain ⟨q0, q1, q2, q3, q4, q37⟩ := fing_cells K5d.out.row
    rw [HVV.out] at q1
    have lS := run_ldS U5d gs Z K5d.out.s HZ.out.1
    have HB : Hid (Below w.heap.size w U5d) := K5d.out.bel
    clear q0 q1 q2 q3 q4 q37 lS K5d
    go_wp2_with fail
    go_ret
    exact ⟨rfl, HB.out⟩
end Go.Proofs.YtlkbhgjmppcfoaaDoor
