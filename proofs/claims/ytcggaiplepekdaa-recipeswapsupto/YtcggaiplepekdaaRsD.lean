/- Swap of the document. -/
import Derived.Test.YtcggaiplepekdaaRsC
import Derived.Test.YtcggaiplepekdaaRsO
import Derived.Test.YtcggaiplepekdaaRcW
namespace Go.Proofs.Ytcggaiplepekdaa
open Go.RowKit
def mI {α : Type} (f : α → α) (l : List α) (i : Nat) : List α := (l.take i).map f ++ l.drop i
theorem mI_0 {α : Type} (f : α → α) (l : List α) : mI f l 0 = l := by simp [mI]
theorem mI_all {α : Type} (f : α → α) (l : List α) {i : Nat} (h : l.length ≤ i) : mI f l i = l.map f := by simp [mI, List.take_of_length_le h, List.drop_of_length_le h]
theorem mI_len {α : Type} (f : α → α) (l : List α) (i : Nat) : (mI f l i).length = l.length := by simp [mI]; omega
theorem mI_at {α : Type} (f : α → α) {l : List α} {i : Nat} {x : α} (h : l[i]? = some x) : (mI f l i)[i]? = some x := by
  have hi := (List.getElem?_eq_some_iff.1 h).1
  unfold mI
  rw [List.getElem?_append_right (by simp; omega)]
  simp [show i - min i l.length = 0 by omega, h]
theorem mI_set {α : Type} (f : α → α) {l : List α} {i : Nat} {x : α} (h : l[i]? = some x) : (mI f l i).set i (f x) = mI f l (i + 1) := by
  obtain ⟨hi, hx⟩ := List.getElem?_eq_some_iff.1 h
  unfold mI
  rw [List.take_add_one, h, List.drop_eq_getElem_cons hi, hx]
  have hl : ((l.take i).map f).length = i := by simp; omega
  rw [List.set_append_right _ _ (by omega), hl, Nat.sub_self]
  simp
/-- A recipe with its texts exchanged. -/
def swP (C : List Pai) (p : Pai) : Pai := (p.1, swS C p.2)
def swR (C : List Pai) (R : Rcp) : Rcp := { R with a := R.a.map (swS C), e := R.e.map (swP C) }
/-- Nothing is too long. -/
def Bd (R : Rcp) (fr to : List S) : Prop := (∀ x ∈ R.a, x.size ≤ 2000000) ∧ (∀ p ∈ R.e, p.2.size ≤ 2000000) ∧ (∀ x ∈ fr, x.size ≤ 2000000) ∧ (∀ x ∈ to, x.size ≤ 2000000) ∧ fr.length ≤ 10000000 ∧ to.length ≤ 10000000
theorem Tw.setA {base : Nat} {W : World} {g m c : Nat} {o n s e : Value} {us : List Value} {R : Rcp} (h : Tw base W o n s (.slice (some ⟨g, 0, none⟩) m c) e us R) (hp : Sepa s (.slice (some ⟨g, 0, none⟩) m c) us) {i : Nat} {x : S} (l : S) (hx : R.a[i]? = some x) : Tw base (W.setCell ⟨g, i, none⟩ (.string l)) o n s (.slice (some ⟨g, 0, none⟩) m c) e us { R with a := R.a.set i l } := by
  have hq := hp g rfl
  refine ⟨h.fo.other h.fa (by decide), h.fn.other h.fa (by decide), h.fs.apart hq.1, ?_, h.fe.other h.fa (by decide), h.ul, fun j x u q1 q2 => (h.each j x u q1 q2).apart (hq.2 j u q2)⟩
  have := h.fa.setc i 0 (sR x) (.string l) (by rw [List.getElem?_map, hx]; rfl) (by omega) rfl
  rw [Nat.mul_one, Nat.add_zero] at this
  show Ol base 9 1 _ _ ((R.a.set i l).map sR)
  rw [List.map_set]
  exact this
theorem Rd.setA {W : World} {C : Array Value} {g m c : Nat} {o n s e : Value} {us : List Value} {R : Rcp} {wr : World} (h : Rd W C o n s (.slice (some ⟨g, 0, none⟩) m c) e us R wr) (hp : Sepa s (.slice (some ⟨g, 0, none⟩) m c) us) {i : Nat} {x : S} (l : S) (hx : R.a[i]? = some x) : Rd W C o n s (.slice (some ⟨g, 0, none⟩) m c) e us { R with a := R.a.set i l } (wr.setCell ⟨g, i, none⟩ (.string l)) := ⟨h.bx.other h.tw.fa (by decide) (Nat.le_refl _), h.tw.setA hp l hx⟩
open Classical in
noncomputable def wth (p s : S) : Bool := decide (bl p <:+: bl s)
theorem wth_iff (p s : S) : wth p s = true ↔ bl p <:+: bl s := by unfold wth; exact decide_eq_true_iff
theorem withinV (s p : S) (hs : s.size ≤ 2000000) (hp : p.size ≤ 2000000) (w : World) : Calls Try.prog 26 #[.string s, .string p] w fun e w' => e = .returned (.bool (wth p s)) ∧ w' = w := by
  refine (within_any s p (by omega) (by omega) w).mono ?_
  rintro e w' ⟨b, rfl, hb, rfl⟩
  refine ⟨?_, rfl⟩
  have : b = wth p s := by rw [Bool.eq_iff_iff, hb, wth_iff]
  rw [this]
/-- What is wrong with two of them. -/
def Bad (fr : List S) (i j : Nat) : Prop := ∃ a b, fr[i]? = some a ∧ fr[j]? = some b ∧ (bl a = [] ∨ (i ≠ j ∧ bl a <:+: bl b))
theorem not_bad {fr : List S} {i j : Nat} (h : Bad fr i j) : ¬ Apt fr := fun ha => by
  obtain ⟨a, b, h1, h2, h3⟩ := h
  rcases h3 with q | ⟨q1, q2⟩
  · exact ha.1 a (List.mem_of_getElem? h1) q
  · exact (pw_at (fun _ _ q => ⟨q.2, q.1⟩) ha.2 h1 h2 q1).1 q2
theorem apt_bad {fr : List S} (h : ∀ i j, i < fr.length → j < fr.length → ¬ Bad fr i j) : Apt fr := by
  refine ⟨fun a ha => ?_, pw_of fun i j x y hij hi hj => ?_⟩
  · obtain ⟨i, hi⟩ := List.mem_iff_getElem?.1 ha
    have := (List.getElem?_eq_some_iff.1 hi).1
    exact fun q => h i i this this ⟨a, a, hi, hi, .inl q⟩
  · have h1 := (List.getElem?_eq_some_iff.1 hi).1
    have h2 := (List.getElem?_eq_some_iff.1 hj).1
    exact ⟨fun q => h i j h1 h2 ⟨x, y, hi, hj, .inr ⟨by omega, q⟩⟩, fun q => h j i h2 h1 ⟨y, x, hj, hi, .inr ⟨by omega, q⟩⟩⟩
theorem bl_emp {s : S} : bl s = [] ↔ s = ⟨#[]⟩ := ⟨fun h => bl_inj h, fun h => by rw [h]; rfl⟩
theorem Apt.ne {fr to : List S} (h : Apt fr) : NE (fr.zip to) := fun x hx => h.1 x.1 (List.of_mem_zip hx).1
theorem zip_fst {fr to : List S} (h : fr.length = to.length) : (fr.zip to).map (·.1) = fr := by
  rw [List.map_fst_zip (by omega)]
theorem Apt.zpf {fr to : List S} (h : Apt fr) (hl : fr.length = to.length) : PF (fr.zip to) := Apt.pf (by rw [zip_fst hl]; exact h)
theorem sw_bd {fr to : List S} (h : Apt fr) (ht : ∀ x ∈ to, x.size ≤ 2000000) {s : S} (hs : s.size ≤ 2000000) : (SW (fr.zip to) (bl s)).length ≤ 8796093022208 := by
  have := sw_len (M := 2000000) (by omega) (h.ne (to := to)) (fun x hx => by rw [bl_len]; exact ht x.2 (List.of_mem_zip hx).2) (bl s).length (bl s) (Nat.le_refl _)
  rw [bl_len] at this
  have h2 : s.size * 2000000 ≤ 2000000 * 2000000 := Nat.mul_le_mul_right _ hs
  omega
open Classical in
/-- What Swap leaves. -/
def SwE (W : World) (R : Rcp) (fr to : List S) : Ending → World → Prop := GiE W (if fr.length = to.length ∧ Apt fr then swR (fr.zip to) R else ZER) (if fr.length = to.length ∧ Apt fr then 0 else 2)
/-- Nothing but draws. -/
def Dr (B w : World) : Prop := ∃ m, w = B.drewN m
theorem Dr.refl (B : World) : Dr B B := ⟨0, rfl⟩
theorem Dr.more {B w : World} (h : Dr B w) (k : Nat) : Dr B (w.drewN k) := by
  obtain ⟨m, rfl⟩ := h
  refine ⟨m + k, ?_⟩
  unfold World.drewN
  simp [Nat.add_assoc]
theorem Dr.bel {B w : World} (h : Dr B w) : Below B.heap.size B w := drew_bel h
theorem Bx.dr {W B w : World} {c : Array Value} (h : Bx W c B) (hd : Dr B w) : Bx W c w := h.below hd.bel
section
attribute [local go_sem ↓] toLdR toStR
set_option maxRecDepth 100000 in
set_option maxHeartbeats 3200000 in
theorem swapR_ne (W : World) (o n s a e : Value) (R : Rcp) (fv tv : Value) (fr to : List S) (hf : Ls W fv 1 (fr.map sR)) (ht : Ls W tv 1 (to.map sR)) (hq : ¬ fr.length = to.length) : Calls Try.prog 19 #[.agg (rV o n s R.sys R.bld a e), fv, tv] W (SwE W R fr to) := by
  unfold SwE
  rw [if_neg (fun q => hq q.1), if_neg (fun q => hq q.1)]
  obtain ⟨B0, hB0⟩ : ∃ B0, (W.alloc (.cells (rV o n s R.sys R.bld a e) 27)).alloc (.cells zR 27) = B0 := ⟨_, rfl⟩
  have x0 : Bx W (rV o n s R.sys R.bld a e) B0 := hB0 ▸ bx_new W _
  obtain ⟨of, cf, rfl⟩ := hf.form
  obtain ⟨ot, ct, rfl⟩ := ht.form
  obtain ⟨lf, hlf⟩ : ∃ k, fr.length = k := ⟨_, rfl⟩
  obtain ⟨lt, hlt⟩ : ∃ k, to.length = k := ⟨_, rfl⟩
  rw [List.length_map, hlf, List.length_map, hlt]
  have el : ¬ (lf : Int) = (lt : Int) := by omega
  obtain ⟨s1, s2, s3, s4⟩ := Tw.give x0 (tw_zer B0.heap.size B0) (Below.refl _ _) (C := zR) rfl (by simp [zR, Value.oneCell'])
  obtain ⟨Z, hZ⟩ : ∃ Z, B0.setRow (W.heap.size + 1) zR = Z := ⟨_, rfl⟩
  rw [hZ] at s1 s2 s3 s4
  have HF : Hid (_ ∧ _ ∧ _) := ⟨s2, s3, s4⟩
  rw [← hB0] at s1
  unfold rV zR at s1
  unfold rV
  clear hf ht hlf hlt x0 hB0 hq hZ s2 s3 s4
  go_enter Try.func19, Try.ntmps19
  go_wp2_with fail
  refine bodyPost_ret (results_R2 rfl _ _ (W.heap.size + 1) _ rfl rfl HF.out.2.2) rfl ?_
  exact ⟨_, _, _, _, _, [], rfl, HF.out.1, HF.out.2.1⟩
set_option maxRecDepth 100000 in
set_option maxHeartbeats 6400000 in
theorem swapR_eq (W : World) (o n s a e : Value) (R : Rcp) (hs : Sm R) (h : Rc W o n s a e R) (fv tv : Value) (fr to : List S) (hf : Ls W fv 1 (fr.map sR)) (ht : Ls W tv 1 (to.map sR)) (hb : Bd R fr to) (hq : fr.length = to.length) : Calls Try.prog 19 #[.agg (rV o n s R.sys R.bld a e), fv, tv] W (SwE W R fr to) := by
  obtain ⟨B0, hB0⟩ : ∃ B0, (W.alloc (.cells (rV o n s R.sys R.bld a e) 27)).alloc (.cells zR 27) = B0 := ⟨_, rfl⟩
  have x0 : Bx W (rV o n s R.sys R.bld a e) B0 := hB0 ▸ bx_new W _
  obtain ⟨of, cf, rfl⟩ := hf.form
  obtain ⟨ot, ct, rfl⟩ := ht.form
  obtain ⟨lf, hlf⟩ : ∃ k, fr.length = k := ⟨_, rfl⟩
  have hlt : to.length = lf := by omega
  rw [List.length_map, hlf] at hf
  rw [List.length_map, hlt] at ht
  rw [List.length_map, hlf, List.length_map, hlt]
  have HG : Hid (Sm R ∧ Rc W o n s a e R ∧ Bd R fr to ∧ fr.length = lf ∧ to.length = lf ∧ Ls W (.slice of lf cf) 1 (fr.map sR) ∧ Ls W (.slice ot lf ct) 1 (to.map sR)) := ⟨hs, h, hb, hlf, hlt, hf, ht⟩
  have HX : Hid (Bx W (rV o n s R.sys R.bld a e) B0) := x0
  have HB0 : Hid (_ = B0) := hB0
  have HT : Hid (∀ (j : Nat) x, fr[j]? = some x → ∃ g p, of = some ⟨g, p, none⟩ ∧ ∀ w, Dr B0 w → w.cell? ⟨g, p + j, none⟩ = some (.string x)) := fun j x hx => by
    obtain ⟨g, p, q1, q2⟩ := hf.txt hx
    exact ⟨g, p, q1, fun w hw => q2 _ (x0.dr hw).bel⟩
  have HZE : Hid (∀ w, Dr B0 w → ∃ Z, (stR (.pointer (some ⟨W.heap.size + 1, 0, none⟩)) (.agg zR)).run Try.prog w = .ok () Z ∧ Hid (Gv W ZER (.slice none 0 0) (.slice none 0 0) (.slice none 0 0) (.slice none 0 0) (.slice none 0 0) [] Z)) := fun w hw => Tw.gv (x0.dr hw) (tw_zer w.heap.size w) (Below.refl _ _)
  have HCW : Hid (∀ (i j : Nat) x y w, fr[i]? = some x → fr[j]? = some y → Calls Try.prog 26 #[.string y, .string x] w fun e w' => e = .returned (.bool (wth x y)) ∧ w' = w) := fun i j x y w hx hy => withinV y x (hb.2.2.1 y (List.mem_of_getElem? hy)) (hb.2.2.1 x (List.mem_of_getElem? hx)) w
  unfold rV zR at HB0
  unfold rV
  clear h hs hf ht hb hlf hlt x0 hB0 hq
  go_enter Try.func19, Try.ntmps19
  go_wp2_with fail
  rw [HB0.out]
  go_loopw [8, 9, 10] (fun iv _ _ wr => ∃ (i : Nat), iv = .int .i64 (i : Int) ∧ Hid (Dr B0 wr ∧ i ≤ lf ∧ ∀ i' j, i' < i → j < lf → ¬ Bad fr i' j)) (fun iv _ _ _ => lf + 1 - (intOf iv).toNat)
  case atStart => exact ⟨0, rfl, Dr.refl _, Nat.zero_le _, fun i' j q => by omega⟩
  case round =>
    obtain ⟨i, rfl, HI⟩ := hrel
    by_cases hi : i < lf
    · have hi1 : (i : Int) < (lf : Int) := by omega
      have hi0 : (0 : Int) ≤ (i : Int) := by omega
      obtain ⟨x, hx⟩ : ∃ x, fr[i]? = some x := ⟨_, List.getElem?_eq_getElem (by have := HG.out.2.2.2.1; omega)⟩
      obtain ⟨g, p, rfl, hcel⟩ := HT.out i x hx
      have HL : Hid (i < lf ∧ fr[i]? = some x ∧ ∀ w, Dr B0 w → w.cell? ⟨g, p + i, none⟩ = some (.string x)) := ⟨hi, hx, hcel⟩
      have wi : IntKind.i64.wrap ((i : Int) + 1) = (i : Int) + 1 := by rw [IntKind.wrap_i64]; have := HG.out.2.2.1.2.2.2.2.1; have := HG.out.2.2.2.1; omega
      clear hi hx hcel
      go_wp2_with fail
      go_loopw [9, 10] (fun jv _ wr => ∃ (j : Nat), jv = .int .i64 (j : Int) ∧ Hid (Dr B0 wr ∧ j ≤ lf ∧ ∀ j', j' < j → ¬ Bad fr i j')) (fun jv _ _ => lf + 1 - (intOf jv).toNat)
      case atStart => exact ⟨0, rfl, HI.out.1, Nat.zero_le _, fun j' q => by omega⟩
      case round =>
        obtain ⟨j, rfl, HJ⟩ := hrel
        by_cases hj : j < lf
        · have hj1 : (j : Int) < (lf : Int) := by omega
          have hj0 : (0 : Int) ≤ (j : Int) := by omega
          obtain ⟨y, hy⟩ : ∃ y, fr[j]? = some y := ⟨_, List.getElem?_eq_getElem (by have := HG.out.2.2.2.1; omega)⟩
          obtain ⟨g', p', hgp, hcy⟩ := HT.out j y hy
          injection hgp with hgp
          injection hgp with e1 e2
          subst e1 e2
          have cx : ∀ k, (wr.drewN k).cell? ⟨g, p + i, none⟩ = some (.string x) := fun k => HL.out.2.2 _ (HJ.out.1.more k)
          have cy : ∀ k, (wr.drewN k).cell? ⟨g, p + j, none⟩ = some (.string y) := fun k => hcy _ (HJ.out.1.more k)
          have CW : Hid (∀ w, _) := fun w => HCW.out i j x y w HL.out.2.1 hy
          have wj : IntKind.i64.wrap ((j : Int) + 1) = (j : Int) + 1 := by rw [IntKind.wrap_i64]; have := HG.out.2.2.1.2.2.2.2.1; have := HG.out.2.2.2.1; omega
          have HM : Hid (j < lf ∧ fr[j]? = some y) := ⟨hj, hy⟩
          have HBB : Hid (wth x y = true ↔ bl x <:+: bl y) := wth_iff x y
          obtain ⟨b, hb⟩ : ∃ b, wth x y = b := ⟨_, rfl⟩
          rw [hb] at CW HBB
          have HOK : Hid (¬ Bad fr i j → ∀ j', j' < j + 1 → ¬ Bad fr i j') := fun q j' hj' => by
            by_cases z : j' = j
            · rw [z]; exact q
            · exact HJ.out.2.2 j' (by omega)
          clear hj hy hcy hb
          by_cases hx0 : x = ⟨#[]⟩
          · have HBD : Hid (¬ Apt fr) := not_bad (i := i) (j := j) ⟨x, y, HL.out.2.1, HM.out.2, .inl (bl_emp.2 hx0)⟩
            subst hx0
            go_wp2_with fail
            go_quiet ((go_at_call 26; exact Calls.quiet_of_same (CW.out _)))
            obtain ⟨Z, s1, HF⟩ := HZE.out (wr.drewN nq) (HJ.out.1.more nq)
            unfold zR at s1
            go_wp2_with fail
            refine bodyPost_ret (results_R2 rfl _ _ (W.heap.size + 1) _ rfl rfl HF.out.row) rfl ?_
            unfold SwE
            rw [if_neg (fun q => HBD.out q.2), if_neg (fun q => HBD.out q.2)]
            exact ⟨_, _, _, _, _, [], rfl, HF.out.tw, HF.out.bel⟩
          · have hx1 : (ByteArray.toList x).isEmpty = false := by
              have := tl_ne hx0
              rw [bl_tl]
              rw [bl_tl, bl_tl] at this
              cases hq : bl x with
              | nil => rw [hq] at this; cases this
              | cons => rfl
            have HX0 : Hid (bl x ≠ []) := fun q => hx0 (bl_emp.1 q)
            clear hx0
            by_cases hij : i = j
            · subst hij
              obtain rfl : x = y := Option.some.inj (HL.out.2.1.symm.trans HM.out.2)
              have HNB : Hid (¬ Bad fr i i) := by
                rintro ⟨a1, b1, q1, q2, q3⟩
                obtain rfl : x = a1 := Option.some.inj (HL.out.2.1.symm.trans q1)
                rcases q3 with q | ⟨q, -⟩
                · exact HX0.out q
                · exact q rfl
              clear cy
              go_wp2_with fail
              go_quiet ((go_at_call 26; exact Calls.quiet_of_same (CW.out _)))
              go_wp2_with fail
              go_roundw
              case rel => exact ⟨i + 1, by go_num, HJ.out.1.more _, HM.out.1, HOK.out HNB.out⟩
              case measure => have := HM.out.1; simp [intOf]; omega
            · have hij1 : ¬ (i : Int) = (j : Int) := by omega
              have HIJ : Hid (i ≠ j) := hij
              clear hij
              cases b with
              | true =>
                have HBD : Hid (¬ Apt fr) := not_bad (i := i) (j := j) ⟨x, y, HL.out.2.1, HM.out.2, .inr ⟨HIJ.out, HBB.out.1 rfl⟩⟩
                go_wp2_with fail
                go_quiet ((go_at_call 26; exact Calls.quiet_of_same (CW.out _)))
                obtain ⟨Z, s1, HF⟩ := HZE.out (wr.drewN nq) (HJ.out.1.more nq)
                unfold zR at s1
                go_wp2_with fail
                refine bodyPost_ret (results_R2 rfl _ _ (W.heap.size + 1) _ rfl rfl HF.out.row) rfl ?_
                unfold SwE
                rw [if_neg (fun q => HBD.out q.2), if_neg (fun q => HBD.out q.2)]
                exact ⟨_, _, _, _, _, [], rfl, HF.out.tw, HF.out.bel⟩
              | false =>
                have HNB : Hid (¬ Bad fr i j) := by
                  rintro ⟨a1, b1, q1, q2, q3⟩
                  obtain rfl : x = a1 := Option.some.inj (HL.out.2.1.symm.trans q1)
                  obtain rfl : y = b1 := Option.some.inj (HM.out.2.symm.trans q2)
                  rcases q3 with q | ⟨-, q⟩
                  · exact HX0.out q
                  · have := HBB.out.2 q
                    cases this
                go_wp2_with fail
                go_quiet ((go_at_call 26; exact Calls.quiet_of_same (CW.out _)))
                go_wp2_with fail
                go_roundw
                case rel => exact ⟨j + 1, by go_num, HJ.out.1.more _, HM.out.1, HOK.out HNB.out⟩
                case measure => have := HM.out.1; simp [intOf]; omega
        · have hj1 : ¬ ((j : Int) < (lf : Int)) := by omega
          have HF : Hid (∀ i' j, i' < i + 1 → j < lf → ¬ Bad fr i' j) := fun i' k h1 h2 => by
            by_cases z : i' = i
            · rw [z]; exact HJ.out.2.2 k (by omega)
            · exact HI.out.2.2 i' k (by omega) h2
          clear hj
          go_wp2_with fail
          go_roundw
          case rel => exact ⟨i + 1, by go_num, HJ.out.1, HL.out.1, HF.out⟩
          case measure => have := HL.out.1; simp [intOf]; omega
    · have hi1 : ¬ ((i : Int) < (lf : Int)) := by omega
      have hap : Apt fr := apt_bad fun i' j h1 h2 => HI.out.2.2 i' j (by have := HG.out.2.2.2.1; omega) (by have := HG.out.2.2.2.1; omega)
      have xd := HX.out.dr HI.out.1
      have l1 := ld_R wr W.heap.size _ rfl xd.r0
      have HCt : Hid _ := twin_sep wr o n s a e R HG.out.1 (HG.out.2.1.below xd.bel)
      have HXd : Hid (Bx W (rV o n s R.sys R.bld a e) wr ∧ Apt fr) := ⟨xd, hap⟩
      unfold rV at l1
      clear hi hap xd HCW HZE HT
      go_wp2_with fail
      refine Calls.mono HCt.out ?_
      rintro en w1 ⟨o', n', s', a', e', us, rfl, tw, bw, sep⟩
      have bx1 := HXd.out.1.below bw
      have s1 := st_R w1 W.heap.size _ (rV o' n' s' R.sys R.bld a' e') rfl rfl (tw.one _ _) bx1.r0
      obtain ⟨X, hX⟩ : ∃ X, w1.setRow W.heap.size (rV o' n' s' R.sys R.bld a' e') = X := ⟨_, rfl⟩
      have HS : Hid (Rd W (rV o' n' s' R.sys R.bld a' e') o' n' s' a' e' us R X) := by
        rw [← hX]
        exact ⟨⟨below_setRow bx1.bel (Nat.le_refl _) _, setRow_heap _ _ _ _ _ _ bx1.r0, (setRow_other _ _ _ _ (by omega)).trans bx1.r1⟩, (tw.mono HXd.out.1.bel.size).rows (fun g D t hD ht => setRow_other _ _ _ _ (tag_ne hD bx1.r0 ht))⟩
      rw [hX] at s1
      obtain ⟨xa, ca, fa, -⟩ := tw.fa.form
      obtain ⟨xe, ce, fe, -⟩ := tw.fe.form
      obtain ⟨la, hla⟩ : ∃ k, R.a.length = k := ⟨_, rfl⟩
      obtain ⟨le, hle⟩ : ∃ k, R.e.length = k := ⟨_, rfl⟩
      rw [List.length_map, hla] at fa
      rw [List.length_map, hle] at fe
      subst fa fe
      have HL : Hid (R.a.length = la ∧ R.e.length = le ∧ Sepa s' (.slice xa la ca) us) := ⟨hla, hle, sep⟩
      have HO : Hid ((rV o' n' s' R.sys R.bld (.slice xa la ca) (.slice xe le ce)).all (·.oneCell') = true) := tw.one _ _
      unfold rV at s1
      unfold rV
      clear tw bw sep bx1 hX hla hle HCt l1
      go_wp2_with fail
      clear s1
      obtain ⟨C1, hC1⟩ : ∃ C : Array Value, C = rV o' n' s' R.sys R.bld (.slice xa la ca) (.slice xe le ce) := ⟨_, rfl⟩
      have HCC : Hid (C1 = rV o' n' s' R.sys R.bld (.slice xa la ca) (.slice xe le ce)) := hC1
      rw [← hC1] at HS
      clear hC1
      obtain ⟨Cz, hCz⟩ : ∃ Cz, fr.zip to = Cz := ⟨_, rfl⟩
      have HCZ : Hid (fr.zip to = Cz) := hCz
      have HSW : Hid (∀ (x : S) w, Below W.heap.size W w → x.size ≤ 2000000 → Calls Try.prog 27 #[.string x, .slice of lf cf, .slice ot lf ct] w fun e w' => e = .returned (.string (swS Cz x)) ∧ Below w.heap.size w w') := fun x w hw hx => by
        have hg := HG.out
        have := swappedR_any w x (.slice of lf cf) (.slice ot lf ct) fr to (hg.2.2.2.2.2.1.below hw) (hg.2.2.2.2.2.2.below hw) (by omega) (HXd.out.2.zpf (by omega)) HXd.out.2.ne (by omega) (fun x hx => by have := hg.2.2.1.2.2.1 x hx; omega) (by have := hg.2.2.1.2.2.2.2.1; omega) (sw_bd HXd.out.2 hg.2.2.1.2.2.2.1 hx)
        rw [hCz] at this
        exact this
      clear hCz
      go_loopw [11] (fun iv wr => ∃ (i : Nat), iv = .int .i64 (i : Int) ∧ Hid (i ≤ la ∧ Rd W C1 o' n' s' (.slice xa la ca) (.slice xe le ce) us { R with a := mI (swS Cz) R.a i } wr)) (fun iv _ => la + 1 - (intOf iv).toNat)
      case atStart => exact ⟨0, rfl, Nat.zero_le _, by rw [mI_0]; exact HS.out⟩
      case round =>
        obtain ⟨i, rfl, HI⟩ := hrel
        have k5 : wr.cell? ⟨W.heap.size, 5, none⟩ = some (.slice xa la ca) := HI.out.2.bx.cel (by rw [HCC.out]; rfl)
        by_cases hi : i < la
        · obtain ⟨ile, rd⟩ := HI.out
          obtain ⟨x, hx⟩ : ∃ x, R.a[i]? = some x := ⟨_, List.getElem?_eq_getElem (by have := HL.out.1; omega)⟩
          obtain ⟨g, rfl⟩ := rd.tw.fa.own (by omega)
          have hx2 : (mI (swS Cz) R.a i)[i]? = some x := mI_at _ hx
          have hx3 : ((mI (swS Cz) R.a i).map sR)[i]? = some (sR x) := by rw [List.getElem?_map, hx2]; rfl
          have rdE := rd.below (below_drw wr)
          have kE : wr.drew.cell? ⟨W.heap.size, 5, none⟩ = some (.slice (some ⟨g, 0, none⟩) la ca) := rdE.bx.cel (by rw [HCC.out]; rfl)
          have cE : wr.drew.cell? ⟨g, i, none⟩ = some (.string x) := by have := rdE.tw.fa.cel i 0 _ (.string x) hx3 rfl; simpa using this
          have HCs : Hid _ := HSW.out x wr.drew rdE.bx.bel (HG.out.2.2.1.1 x (List.mem_of_getElem? hx))
          have HRd : Hid (i < la ∧ R.a[i]? = some x ∧ Rd W C1 o' n' s' (.slice (some ⟨g, 0, none⟩) la ca) (.slice xe le ce) us { R with a := mI (swS Cz) R.a i } wr.drew) := ⟨hi, hx, rdE⟩
          have hi0 : (0 : Int) ≤ (i : Int) := by omega
          have hi1 : (i : Int) < (la : Int) := by omega
          have w1' : IntKind.i64.wrap ((i : Int) + 1) = (i : Int) + 1 := by rw [IntKind.wrap_i64]; have := HG.out.1.2.2.2.1; have := HL.out.1; omega
          obtain ⟨y, hy⟩ : ∃ y, swS Cz x = y := ⟨_, rfl⟩
          rw [hy] at HCs
          have HY : Hid (swS Cz x = y) := hy
          clear hi ile rd hx hx2 hx3 rdE hy
          go_wp2_with fail
          have HA : Hid (∀ Y, Below wr.drew.heap.size wr.drew Y → Y.cell? ⟨W.heap.size, 5, none⟩ = some (.slice (some ⟨g, 0, none⟩) la ca) ∧ Y.frozen? ⟨g, i, none⟩ = false ∧ Y.cell? ⟨g, i, none⟩ = some (.string x) ∧ Hid (Rd W C1 o' n' s' (.slice (some ⟨g, 0, none⟩) la ca) (.slice xe le ce) us { R with a := mI (swS Cz) R.a (i + 1) } (Y.setCell ⟨g, i, none⟩ (.string y)))) := fun Y bY => by
            have rdY := HRd.out.2.2.below bY
            have hx2 : (mI (swS Cz) R.a i)[i]? = some x := mI_at _ HRd.out.2.1
            refine ⟨rdY.bx.cel (by rw [HCC.out]; rfl), rdY.tw.fa.fro _, ?_, ?_⟩
            · have := rdY.tw.fa.cel i 0 _ (.string x) (by rw [List.getElem?_map, hx2]; rfl) rfl
              simpa using this
            · have := rdY.setA HL.out.2.2 y hx2
              have e : (mI (swS Cz) R.a i).set i y = mI (swS Cz) R.a (i + 1) := by rw [← HY.out]; exact mI_set _ HRd.out.2.1
              simp only [e] at this
              exact this
          go_region_with (go_at_call 27; refine Calls.mono HCs.out ?_; rintro en Y ⟨rfl, bY⟩; obtain ⟨kY, fY, cY, HRY⟩ := HA.out Y bY; clear bY)
          all_goals go_wp2_with fail
          all_goals go_roundw
          all_goals first
            | exact ⟨i + 1, by go_num, HRd.out.1, HRY.out⟩
            | (have := HRd.out.1; simp [intOf]; omega)
        · obtain ⟨ile, rd⟩ := HI.out
          have hi2 : ¬ ((i : Int) < (la : Int)) := by omega
          rw [mI_all _ _ (by have := HL.out.1; omega)] at rd
          have HS2 : Hid (Rd W C1 o' n' s' (.slice xa la ca) (.slice xe le ce) us { R with a := R.a.map (swS Cz) } wr) := rd
          clear hi ile rd HS HI
          go_wp2_with fail
          clear k5 hi2
          go_loopw [12] (fun iv wr => ∃ (i : Nat), iv = .int .i64 (i : Int) ∧ Hid (i ≤ le ∧ Rd W C1 o' n' s' (.slice xa la ca) (.slice xe le ce) us { R with a := R.a.map (swS Cz), e := mI (swP Cz) R.e i } wr)) (fun iv _ => le + 1 - (intOf iv).toNat)
          case atStart => exact ⟨0, rfl, Nat.zero_le _, by rw [mI_0]; exact HS2.out⟩
          case round =>
            obtain ⟨i, rfl, HI⟩ := hrel
            have k6 : wr.cell? ⟨W.heap.size, 6, none⟩ = some (.slice xe le ce) := HI.out.2.bx.cel (by rw [HCC.out]; rfl)
            by_cases hi : i < le
            · obtain ⟨ile, rd⟩ := HI.out
              obtain ⟨x, hx⟩ : ∃ x, R.e[i]? = some x := ⟨_, List.getElem?_eq_getElem (by have := HL.out.2.1; omega)⟩
              obtain ⟨g, rfl⟩ := rd.tw.fe.own (by omega)
              have hx2 : (mI (swP Cz) R.e i)[i]? = some x := mI_at _ hx
              have hx3 : ((mI (swP Cz) R.e i).map eR)[i]? = some (eR x) := by rw [List.getElem?_map, hx2]; rfl
              have rdE := rd.below (below_drw wr)
              have kE : wr.drew.cell? ⟨W.heap.size, 6, none⟩ = some (.slice (some ⟨g, 0, none⟩) le ce) := rdE.bx.cel (by rw [HCC.out]; rfl)
              have cE : wr.drew.cell? ⟨g, i * 2 + 1, none⟩ = some (.string x.2) := rdE.tw.fe.cel i 1 _ _ hx3 rfl
              have HCs : Hid _ := HSW.out x.2 wr.drew rdE.bx.bel (HG.out.2.2.1.2.1 x (List.mem_of_getElem? hx))
              have HRd : Hid (i < le ∧ R.e[i]? = some x ∧ Rd W C1 o' n' s' (.slice xa la ca) (.slice (some ⟨g, 0, none⟩) le ce) us { R with a := R.a.map (swS Cz), e := mI (swP Cz) R.e i } wr.drew) := ⟨hi, hx, rdE⟩
              have hi0 : (0 : Int) ≤ (i : Int) := by omega
              have hi1 : (i : Int) < (le : Int) := by omega
              have w1' : IntKind.i64.wrap ((i : Int) + 1) = (i : Int) + 1 := by rw [IntKind.wrap_i64]; have := HG.out.1.2.2.2.2.1; have := HL.out.2.1; omega
              obtain ⟨x1, x2⟩ := x
              obtain ⟨y, hy⟩ : ∃ y, swS Cz x2 = y := ⟨_, rfl⟩
              simp only [hy] at HCs
              have HY : Hid (swS Cz x2 = y) := hy
              clear hi ile rd hx hx2 hx3 rdE hy
              have HA : Hid (∀ Y, Below wr.drew.heap.size wr.drew Y → Y.cell? ⟨W.heap.size, 6, none⟩ = some (.slice (some ⟨g, 0, none⟩) le ce) ∧ Y.frozen? ⟨g, i * 2 + 1, none⟩ = false ∧ Y.cell? ⟨g, i * 2 + 1, none⟩ = some (.string x2) ∧ Hid (Rd W C1 o' n' s' (.slice xa la ca) (.slice (some ⟨g, 0, none⟩) le ce) us { R with a := R.a.map (swS Cz), e := mI (swP Cz) R.e (i + 1) } (Y.setCell ⟨g, i * 2 + 1, none⟩ (.string y)))) := fun Y bY => by
                have rdY := HRd.out.2.2.below bY
                have hx2 : (mI (swP Cz) R.e i)[i]? = some (x1, x2) := mI_at _ HRd.out.2.1
                refine ⟨rdY.bx.cel (by rw [HCC.out]; rfl), rdY.tw.fe.fro _, rdY.tw.fe.cel i 1 _ _ (by rw [List.getElem?_map, hx2]; rfl) rfl, ?_⟩
                have := rdY.setE y hx2
                have e : (mI (swP Cz) R.e i).set i (x1, y) = mI (swP Cz) R.e (i + 1) := by rw [← HY.out]; exact mI_set (swP Cz) HRd.out.2.1
                simp only [e] at this
                exact this
              go_wp2_with fail
              go_region_with (go_at_call 27; refine Calls.mono HCs.out ?_; rintro en Y ⟨rfl, bY⟩; obtain ⟨kY, fY, cY, HRY⟩ := HA.out Y bY; clear bY)
              all_goals go_wp2_with fail
              all_goals go_roundw
              all_goals first
                | exact ⟨i + 1, by go_num, HRd.out.1, HRY.out⟩
                | (have := HRd.out.1; simp [intOf]; omega)
            · obtain ⟨ile, rd⟩ := HI.out
              rw [mI_all _ _ (by have := HL.out.2.1; omega)] at rd
              have hi2 : ¬ ((i : Int) < (le : Int)) := by omega
              have bx := rd.bx
              rw [HCC.out] at bx
              have ldR' := ld_R wr W.heap.size _ rfl bx.r0
              have tw := rd.tw
              obtain ⟨Z, s1, HF⟩ : ∃ Z, (stR (.pointer (some ⟨W.heap.size + 1, 0, none⟩)) (.agg (rV o' n' s' R.sys R.bld (.slice xa la ca) (.slice xe le ce)))).run Try.prog wr = .ok () Z ∧ Hid (Gv W (swR (fr.zip to) R) o' n' s' (.slice xa la ca) (.slice xe le ce) us Z) :=
                ⟨_, st_R wr (W.heap.size + 1) _ _ rfl rfl HO.out bx.r1, by rw [HCZ.out]; exact tw.rows (fun g C t hC ht => setRow_other _ _ _ _ (tag_ne hC bx.r1 ht)), below_setRow bx.bel (by omega) _, setRow_heap _ _ _ _ _ _ bx.r1⟩
              unfold rV at ldR' s1
              clear hi ile rd tw bx
              go_wp2_with fail
              refine bodyPost_ret (results_R2 rfl _ _ (W.heap.size + 1) _ rfl rfl HF.out.row) rfl ?_
              unfold SwE
              have hc : fr.length = to.length ∧ Apt fr := ⟨by have := HG.out; omega, HXd.out.2⟩
              rw [if_pos hc, if_pos hc]
              exact ⟨_, _, _, _, _, us, rfl, HF.out.tw, HF.out.bel⟩
theorem swapR_any (W : World) (o n s a e : Value) (R : Rcp) (hs : Sm R) (h : Rc W o n s a e R) (fv tv : Value) (fr to : List S) (hf : Ls W fv 1 (fr.map sR)) (ht : Ls W tv 1 (to.map sR)) (hb : Bd R fr to) : Calls Try.prog 19 #[.agg (rV o n s R.sys R.bld a e), fv, tv] W (SwE W R fr to) := by
  by_cases hq : fr.length = to.length
  · exact swapR_eq W o n s a e R hs h fv tv fr to hf ht hb hq
  · exact swapR_ne W o n s a e R fv tv fr to hf ht hq
end
end Go.Proofs.Ytcggaiplepekdaa
