/- JournalAgain: the law's walk. -/
import Derived.Test.YtfimaflglnemdaaDoorJqN
namespace Go.Proofs.YtfimaflglnemdaaDoor
open Go.RowKit
open JM
set_option maxRecDepth 20000
namespace Dev
/-- A story's six cells. -/
abbrev S6 (k live Ln gen first n4 n5 q4 q5 : Nat) (p4 p5 : Option Addr) (w : World) : Prop := w.cell? ⟨k, 0, none⟩ = some (.int .i64 (live : Int)) ∧ w.cell? ⟨k, 1, none⟩ = some (.int .i64 (Ln : Int)) ∧ w.cell? ⟨k, 2, none⟩ = some (.int .i64 (gen : Int)) ∧ w.cell? ⟨k, 3, none⟩ = some (.int .i64 (first : Int)) ∧ w.cell? ⟨k, 4, none⟩ = some (.slice p4 n4 q4) ∧ w.cell? ⟨k, 5, none⟩ = some (.slice p5 n5 q5)
theorem S6.of {k live Ln gen first n4 n5 q4 q5 : Nat} {p4 p5 : Option Addr} {w : World} (h : w.heap[k]? = some (.cells (styA live Ln gen first (.slice p4 n4 q4) (.slice p5 n5 q5)) 47 (0, 0))) : S6 k live Ln gen first n4 n5 q4 q5 p4 p5 w :=
  ⟨(cell_of_row _ _ _ _ _ _ h).trans rfl, (cell_of_row _ _ _ _ _ _ h).trans rfl, (cell_of_row _ _ _ _ _ _ h).trans rfl, (cell_of_row _ _ _ _ _ _ h).trans rfl, (cell_of_row _ _ _ _ _ _ h).trans rfl, (cell_of_row _ _ _ _ _ _ h).trans rfl⟩
theorem S6.below {k live Ln gen first n4 n5 q4 q5 : Nat} {p4 p5 : Option Addr} {w w' : World} (h : S6 k live Ln gen first n4 n5 q4 q5 p4 p5 w) (hb : Below w.heap.size w w') : S6 k live Ln gen first n4 n5 q4 q5 p4 p5 w' :=
  ⟨cell_below hb h.1, cell_below hb h.2.1, cell_below hb h.2.2.1, cell_below hb h.2.2.2.1, cell_below hb h.2.2.2.2.1, cell_below hb h.2.2.2.2.2⟩
set_option maxRecDepth 100000 in
set_option maxHeartbeats 6400000 in
theorem again_any {us ub : Value} {ss : List (Bool × List (List Nat))} {lb : List (List Nat)} (W : World) (hS : Ss W us ss) (hB : Lr W ub lb) (hBl : ∀ x ∈ lb, x.length ≤ Go.Proofs.YtfimaflglnemdaaDoor.LIM) (hT : Tc W) :
    Calls Tryd.prog 5 #[us, ub] W fun e w' => e = .returned (.bool true) ∧ Below W.heap.size W w' := by
  obtain ⟨oa, cap, rfl⟩ := hS.sl
  obtain ⟨ob, capb, rfl⟩ := hB.sl
  have C1 := grown_any W hS hT
  have HW := mkHid (And.intro hT (And.intro hB hBl))
  clear hS hT hB hBl
  go_enter Tryd.func5, Tryd.ntmps5
  go_wp2_with fail
  refine C1.mono ?_
  rintro e w1 ⟨live, gen, first, base, bs, x, cA, t4, t5, rfl, hD, h4, h5, fx, fo, hq⟩
  clear C1
  obtain ⟨hb0, hb1, hl0, hl1, hrep⟩ := hq.bytes fx fo
  obtain ⟨g0, g1, e, d0, d1, z0, z1, d01, b1⟩ := id hD
  subst e
  obtain ⟨p4, q4, e4⟩ := h4.sl
  obtain ⟨p5, q5, e5⟩ := h5.sl
  subst e4 e5
  obtain ⟨Ln, hLn⟩ : ∃ Ln, (journalw gen first base bs).length = Ln := ⟨_, rfl⟩
  rw [hLn] at hrep
  obtain ⟨w2, hw2⟩ : ∃ w2, (w1.alloc (.cells (dkA g0 x.1.1.length g1 x.2.1.length) 26)).alloc (.cells (styA live Ln gen first (.slice p4 base.length q4) (.slice p5 bs.length q5)) 47) = w2 := ⟨_, rfl⟩
  have b12 : Below w1.heap.size w1 w2 := by rw [← hw2]; exact below2 _ _ _
  have ra : w2.heap[w1.heap.size]? = some (.cells (dkA g0 x.1.1.length g1 x.2.1.length) 26 (0, 0)) := by rw [← hw2]; exact row2 _ _ _
  have rb : w2.heap[w1.heap.size + 1]? = some (.cells (styA live Ln gen first (.slice p4 base.length q4) (.slice p5 bs.length q5)) 47 (0, 0)) := by rw [← hw2]; exact row2n _ _ _
  have d0b := (b12.block _ (Array.getElem?_eq_some_iff.1 d0).1).trans d0
  have d1b := (b12.block _ (Array.getElem?_eq_some_iff.1 d1).1).trans d1
  have v0 := bl_row d0b hb0 (by unfold maxLen; omega)
  have v1 := bl_row d1b hb1 (by unfold maxLen; omega)
  have bW2 : Below W.heap.size W w2 := b1.trans (b12.mono b1.size)
  have ca0 : w2.cell? ⟨w1.heap.size, 0, none⟩ = some (.slice (some ⟨g0, 0, none⟩) x.1.1.length x.1.1.length) := (cell_of_row _ _ _ _ _ _ ra).trans rfl
  have ca1 : w2.cell? ⟨w1.heap.size, 1, none⟩ = some (.slice (some ⟨g1, 0, none⟩) x.2.1.length x.2.1.length) := (cell_of_row _ _ _ _ _ _ ra).trans rfl
  have C4 := diskOf_any w2 v0 v1 (by unfold Go.Proofs.YtfimaflglnemdaaDoor.LIM; omega) (by unfold Go.Proofs.YtfimaflglnemdaaDoor.LIM; omega)
  unfold dkA styA at hw2
  obtain ⟨a, ha⟩ : ∃ a, w1.heap.size = a := ⟨_, rfl⟩
  rw [ha] at ca0 ca1 ra rb
  have HQ := mkHid (And.intro hq (And.intro fx (And.intro fo (And.intro hb0 (And.intro hb1 (And.intro hl0 (And.intro hl1 hrep)))))))
  have H2 := mkHid (And.intro bW2 (And.intro rb (And.intro (h4.keep (stay_below b12)) (h5.keep (stay_below b12)))))
  replace hLn := mkHid hLn
  clear hD d0 d1 z0 z1 d01 b1 b12 d0b d1b v0 v1 ra rb bW2 h4 h5 fx fo hq hb0 hb1 hl0 hl1 hrep
  unfold dkA styA
  rw [hLn.out]
  obtain ⟨n0, hn0⟩ : ∃ n0, x.1.1.length = n0 := ⟨_, rfl⟩
  obtain ⟨n1, hn1⟩ : ∃ n1, x.2.1.length = n1 := ⟨_, rfl⟩
  rw [hn0, hn1] at hw2 C4
  rw [hn0] at ca0
  rw [hn1] at ca1
  rw [hn0, hn1]
  go_upto_region 2 with fail
  try rw [hw2]
  try rw [ha]
  clear hw2 ha
  go_wp2_with fail
  refine C4.mono ?_
  rintro e w3 ⟨o2, o3, c2, c3, rfl, e0, e1, b3⟩
  clear C4 ca0 ca1
  have C5 := new_any w3 _ _ _ _ e0 e1 (by have := HQ.out; unfold LIM; omega) (by have := HQ.out; unfold LIM; omega)
  rw [hn0, hn1] at C5
  have H3 := mkHid b3
  clear e0 e1 b3
  go_wp2_with fail
  refine C5.mono ?_
  rintro e w4 ⟨rfl, k4⟩
  clear C5
  obtain ⟨fD, hDv⟩ := @dv_of h0 _ _ _ k4 (Nat.zero_le _)
  have b34 : Below w3.heap.size w3 w4 := k4.1
  have b24 : Below w2.heap.size w2 w4 := H3.out.trans (b34.mono H3.out.size)
  have bW4 : Below W.heap.size W w4 := H2.out.1.trans (b24.mono H2.out.1.size)
  have hT4 : Tc w4 := HW.out.1.below bW4 HW.out.1.sz
  have C6 := @Open_story h0 w3.heap.size (w3.heap.size + 1) 2097152 w4 _ _ _ [] (mo0 x) live ⟨true, true, Ln, gen, first, base, bs, []⟩ (by rw [← hn0, ← hn1] at hDv; exact hDv) b34.size (by decide) hT4 (by decide) (by decide) HQ.out.2.2.2.1 HQ.out.2.2.2.2.1 (by show x.1.1.length ≤ _; have := HQ.out; omega) (by show x.2.1.length ≤ _; have := HQ.out; omega) HQ.out.2.2.2.2.2.2.2 HQ.out.1.lv HQ.out.1.f1 (by have := HQ.out.1.f2; show first + bs.length < _; omega)
  rw [rss_clean (x := mo0 x) (live := live) (n := Ln) (by rw [fl_mo0, HQ.out.2.1, hLn.out]; exact Nat.le_refl _) (by rw [fl_mo0, HQ.out.2.2.1])] at C6
  rw [show ((2097152 : Nat) : Int) = 2097152 from rfl] at C6
  dsimp only [List.nil_append, List.append_nil] at C6
  obtain ⟨lo, hlo⟩ : ∃ lo, w3.heap.size = lo := ⟨_, rfl⟩
  have hlo2 : w2.heap.size ≤ lo := by rw [← hlo]; exact H3.out.size
  have hlo4 : lo ≤ w4.heap.size := by rw [← hlo]; exact b34.size
  obtain ⟨v, hv⟩ : ∃ v, lo + 1 = v := ⟨_, rfl⟩
  rw [hlo, hv] at C6
  rw [hlo, hv]
  have H4 := mkHid (And.intro b24 (And.intro bW4 (And.intro hT4 (And.intro hlo2 hlo4))))
  clear k4 hDv b34 b24 bW4 hT4 hlo hlo2 hlo4 hv
  go_wp2_with fail
  refine C6.mono ?_
  rintro e w5 ⟨j, rfl, hJ5, fo5⟩
  clear C6
  letI := hJ j
  obtain ⟨last, hlast⟩ : ∃ last, first - 1 + bs.length = last := ⟨_, rfl⟩
  have hJ5 : Jh lo w5 j v 2097152 live gen last ([] ++ [mo0 x]) := by rw [← hlast]; exact hJ5
  have bd := below_drew w5
  have jn5 := hJ5.jn.below bd
  have fo25 : Fo lo w2 w5 := (Fo.of_below H4.out.1).trans fo5
  have rb5 := fo25.row H2.out.2.1 (by decide) (by decide) (by decide)
  have s5 : S6 (a + 1) live Ln gen first base.length bs.length q4 q5 p4 p5 w5.drew := S6.of rb5
  have k45 := H2.out.2.2.1.keep (fo25.stay ll_ty)
  have k55 := H2.out.2.2.2.keep (fo25.stay lb_ty)
  have hWlo : W.heap.size ≤ lo := Nat.le_trans H2.out.1.size H4.out.2.2.2.1
  have bW5 : Below W.heap.size W w5 := H4.out.2.1.trans ((fo5.below H4.out.2.2.2.2).mono hWlo)
  have hT5 : Tc w5 := HW.out.1.below bW5 HW.out.1.sz
  have hr5 : rep (mo0 x).1.1 (mo0 x).2.1 = _ := HQ.out.2.2.2.2.2.2.2
  have fxl : (fl (mo0 x) live).1.length = Ln := by rw [fl_mo0, HQ.out.2.1]; exact hLn.out
  have CA := mkHid jn5.count
  have CS : Hid (Calls Tryd.prog 20 #[.pointer (some ⟨j, 0, none⟩)] w5.drew fun e w' => ∃ t4 t5, e = .returned (.agg #[.int .i64 (live : Int), .int .i64 (Ln : Int), .int .i64 (gen : Int), .int .i64 (first : Int), t4, t5]) ∧ Ll w5.drew.heap.size w' t4 base ∧ Lb w5.drew.heap.size w' t5 bs ∧ Below w5.drew.heap.size w5.drew w') := (Story_any jn5 (hT5.below bd hT5.sz) HQ.out.2.2.2.1 HQ.out.2.2.2.2.1 (by show x.1.1.length ≤ _; have := HQ.out; omega) (by show x.2.1.length ≤ _; have := HQ.out; omega) hr5)
  have CM : Hid (∀ w6 t4 t5, Ll w5.drew.heap.size w6 t4 base ∧ Lb w5.drew.heap.size w6 t5 bs ∧ Below w5.drew.heap.size w5.drew w6 → Calls Tryd.prog 19 #[.agg #[.int .i64 (live : Int), .int .i64 (Ln : Int), .int .i64 (gen : Int), .int .i64 (first : Int), t4, t5], .agg #[.int .i64 (live : Int), .int .i64 (Ln : Int), .int .i64 (gen : Int), .int .i64 (first : Int), .slice p4 base.length q4, .slice p5 bs.length q5]] w6 fun e w' => e = .returned (.bool true) ∧ Below w6.heap.size w6 w') := fun w6 t4 t5 h => by
    have b56 := bd.trans (h.2.2.mono bd.size)
    exact sameStory_eq w6 h.1 h.2.1 (k45.keep (stay_below b56)) (k55.keep (stay_below b56)) (by have := HQ.out.1.gb.n; omega) (by have := HQ.out.1.f2; omega) (fun y hy => by have := HQ.out.1.s20 y hy; omega)
  have CL : Hid (∀ w', Below w5.drew.heap.size w5.drew w' → Calls Tryd.prog 17 #[.pointer (some ⟨j, 0, none⟩)] w' fun e w'' => e = .returned (.int .i64 (last : Int)) ∧ w'' = w') := fun w' h => Last_any (jn5.below h)
  have CR : Hid (∀ w', Below w5.drew.heap.size w5.drew w' → Calls Tryd.prog 21 #[.pointer (some ⟨j, 0, none⟩)] w' fun e w'' => e = .returned (.int .i64 ((2097152 - Ln : Nat) : Int)) ∧ Below w'.heap.size w' w'') := fun w' h => by
    have := Room_any (jn5.below h) (by decide) (by rw [fxl]; have := HQ.out.1.len2; have := hLn.out; omega)
    rwa [fxl] at this
  have a1 : IntKind.i64.wrap ((first : Int) - 1) = ((first - 1 : Nat) : Int) := by have := HQ.out.1.f1; have := HQ.out.1.f2; rw [IntKind.wrap_i64]; omega
  have a2 : IntKind.i64.wrap (((first - 1 : Nat) : Int) + (bs.length : Int)) = (last : Int) := by have := HQ.out.1.f2; rw [IntKind.wrap_i64]; omega
  have a3 : IntKind.i64.wrap (2097152 - (Ln : Int)) = ((2097152 - Ln : Nat) : Int) := by have := HQ.out.1.len2; have := hLn.out; rw [IntKind.wrap_i64]; omega
  have H5 := mkHid (And.intro hJ5 (And.intro fo5 (And.intro rb5 (And.intro k45 (And.intro k55 (And.intro hT5 (And.intro bW5 hWlo)))))))
  clear fo25 rb5 k45 k55 hT5 bW5 hr5 fxl jn5 hJ5 fo5 hWlo bd
  go_upto_region 6 with fail
  go_region_held3 (fun w' => S6 (a + 1) live Ln gen first base.length bs.length q4 q5 p4 p5 w') (first | assumption | exact s5 | exact s6 | exact s7 | exact s8)
    (first
      | (go_at_call 9; with_reducible refine Calls.mono CA.out ?_; rintro e w6 ⟨rfl, hw6⟩; subst hw6)
      | (go_at_call 20; with_reducible refine Calls.mono CS.out ?_; rintro e w6 ⟨t4, t5, rfl, k4, k5, b6⟩; have s6 := s5.below b6; have K6 := mkHid (And.intro k4 (And.intro k5 b6)); clear k4 k5 b6)
      | (go_at_call 19; with_reducible refine Calls.mono (CM.out _ _ _ K6.out) ?_; rintro e w7 ⟨rfl, b7⟩; have s7 := s6.below b7; have K7 := mkHid (K6.out.2.2.trans (b7.mono K6.out.2.2.size)); clear b7)
      | (go_at_call 17; with_reducible refine Calls.mono (CL.out _ K7.out) ?_; rintro e w8 ⟨rfl, hw8⟩; subst hw8)
      | (go_at_call 21; with_reducible refine Calls.mono (CR.out _ K7.out) ?_; rintro e w8 ⟨rfl, b8⟩; have s8 := s7.below b8; have K8 := mkHid (K7.out.trans (b8.mono K7.out.size)); clear b8))
  have b58 := (below_drew w5).trans (K8.out.mono (below_drew w5).size)
  have bW8 := H5.out.2.2.2.2.2.2.1.trans (b58.mono H5.out.2.2.2.2.2.2.1.size)
  have C8 := short_any w8 (HW.out.2.1.below bW8) HW.out.2.2
  have H8 := mkHid (And.intro b58 bW8)
  clear CA CS CM CL CR K8 K7 K6 s6 s7 s5 b58 bW8 a1 a2 a3
  go_wp2_with fail
  refine C8.mono ?_
  rintro e w9 ⟨l9, rfl, k9, b9⟩
  clear C8
  have hgl := sho_gl HW.out.2.1.byt
  have hsz := sho_size lb
  have C9 := lists_any w9 k9.lr (fun x hx => by obtain ⟨y, -, rfl⟩ := sho_mem hx; rw [List.length_take]; unfold Go.Proofs.YtfimaflglnemdaaDoor.LIM; omega) (by have := sho_len lb; omega)
  obtain ⟨o9, c9, e9⟩ := k9.sl
  subst e9
  have s9 := s8.below b9
  have H9 := mkHid (And.intro k9 (And.intro b9 (And.intro hgl hsz)))
  clear k9 b9 hgl hsz s8
  go_wp2_with fail
  refine C9.mono ?_
  rintro e w10 ⟨l10, rfl, k10, b10⟩
  clear C9
  have b5A : Below w5.heap.size w5 w10 := H8.out.1.trans ((H9.out.2.1.trans (b10.mono H9.out.2.1.size)).mono H8.out.1.size)
  have bWA := H5.out.2.2.2.2.2.2.1.trans (b5A.mono H5.out.2.2.2.2.2.2.1.size)
  obtain ⟨o, ho⟩ : ∃ o, o + live = 1 := ⟨1 - live, by have := HQ.out.1.lv; omega⟩
  have ho2 : o = 1 - live := by omega
  have jhA := H5.out.1.below b5A
  have hlast2 : last ≤ 1000 := by have := HQ.out.1.f2; omega
  have C10 := Compact_hist jhA (o := o) (by omega) ho k10 H9.out.2.2.1 (HW.out.1.below bWA HW.out.1.sz) (Nat.lt_of_lt_of_le HW.out.1.sz H5.out.2.2.2.2.2.2.2) (by have := HQ.out.1.g2; omega) (by omega) (by have := H9.out.2.2.2; omega) (by rw [fl_mo0, ho2]; exact HQ.out.2.2.1) (by decide) (by have := H9.out.2.2.2; omega) (by decide)
  dsimp only [List.nil_append] at C10
  obtain ⟨oA, cA, eA⟩ := k10.sl
  subst eA
  have sA := s9.below b10
  have HA := mkHid (And.intro b5A (And.intro bWA (And.intro k10 (And.intro b10 (And.intro ho (And.intro ho2 hlast2))))))
  clear s9 b5A bWA jhA k10 b10 ho ho2 hlast2
  go_wp2_with fail
  refine C10.mono ?_
  rintro e w11 ⟨rfl, jB, foB⟩
  clear C10
  have CP := cmp_of (ls := sho lb) HQ.out.1 HQ.out.2.1 HQ.out.2.2.1 HA.out.2.2.2.2.1 hlast hLn.out H9.out.2.2.1 H9.out.2.2.2
  obtain ⟨x1, hx1⟩ : ∃ y, up (mo0 x) o (basew (gen + 1) (last + 1) (sho lb), (fl (mo0 x) o).2) = y := ⟨_, rfl⟩
  obtain ⟨x2, hx2⟩ : ∃ y, up (mo0 x) o (basew (gen + 1) (last + 1) (sho lb), (basew (gen + 1) (last + 1) (sho lb)).length) = y := ⟨_, rfl⟩
  rw [hx1, hx2] at CP jB
  obtain ⟨x3, hx3⟩ : ∃ y, up x2 live ([], 0) = y := ⟨_, rfl⟩
  rw [hx3] at CP jB
  obtain ⟨L2, hL2⟩ : ∃ y, (basew (gen + 1) (last + 1) (sho lb)).length = y := ⟨_, rfl⟩
  rw [hL2] at CP
  obtain ⟨G2, hG2⟩ : ∃ y, gen + 1 = y := ⟨_, rfl⟩
  obtain ⟨F2, hF2⟩ : ∃ y, last + 1 = y := ⟨_, rfl⟩
  have jnB := jB.jn
  have a1 : IntKind.i64.wrap (1 - (live : Int)) = (o : Int) := by have := HA.out.2.2.2.2; rw [IntKind.wrap_i64]; omega
  have a2 : IntKind.i64.wrap ((gen : Int) + 1) = (G2 : Int) := by have := HQ.out.1.g2; rw [IntKind.wrap_i64]; omega
  have a3 : IntKind.i64.wrap ((first : Int) + (bs.length : Int)) = (F2 : Int) := by have := HQ.out.1.f1; have := HA.out.2.2.2.2.2.2; rw [IntKind.wrap_i64]; omega
  have a4 : IntKind.i64.wrap ((F2 : Int) - 1) = (last : Int) := by have := HA.out.2.2.2.2.2.2; rw [IntKind.wrap_i64]; omega
  have hWlo := H5.out.2.2.2.2.2.2.2
  have bWB : Below W.heap.size W w11 := ⟨foB.os.trans HA.out.2.1.os, foB.tape.trans HA.out.2.1.tape, foB.output.trans HA.out.2.1.output, Nat.le_trans HA.out.2.1.size foB.size, fun k hk => (foB.low k (Nat.lt_of_lt_of_le hk hWlo) (Nat.lt_of_lt_of_le hk HA.out.2.1.size)).trans (HA.out.2.1.block k hk)⟩
  have foAB : Fo lo w5 w11 := (Fo.of_below HA.out.1).trans foB
  have rbB := foAB.row H5.out.2.2.1 (by decide) (by decide) (by decide)
  have k4B := H5.out.2.2.2.1.keep (foAB.stay ll_ty)
  have k5B := H5.out.2.2.2.2.1.keep (foAB.stay lb_ty)
  have k9B := (H9.out.1.keep (stay_below HA.out.2.2.2.1)).keep (foB.stay ll_ty)
  have hTB : Tc w11 := HW.out.1.below bWB HW.out.1.sz
  have CB : Hid (Calls Tryd.prog 20 #[.pointer (some ⟨j, 0, none⟩)] w11 fun e w' => ∃ t4 t5, e = .returned (.agg #[.int .i64 (o : Int), .int .i64 (L2 : Int), .int .i64 (G2 : Int), .int .i64 (F2 : Int), t4, t5]) ∧ Ll w11.heap.size w' t4 (sho lb) ∧ Lb w11.heap.size w' t5 [] ∧ Below w11.heap.size w11 w') := by
    rw [← hG2, ← hF2]
    exact Story_any jnB hTB CP.b3.1 CP.b3.2.1 (by have := CP.b3.2.2.1; omega) (by have := CP.b3.2.2.2; omega) CP.r3
  have HB := mkHid (And.intro jB (And.intro bWB (And.intro rbB (And.intro k4B (And.intro k5B (And.intro k9B (And.intro hTB CP)))))))
  have hG2' := mkHid hG2
  have hF2' := mkHid hF2
  clear jB jnB bWB rbB k4B k5B k9B hTB CP foB foAB hx1 hx2 hx3 hL2 hG2 hF2 hWlo sA
  go_wp2_with fail
  refine CB.out.mono ?_
  rintro e w12 ⟨t4, t5, rfl, k4, k5, b12⟩
  clear CB
  obtain ⟨r4, m4, et4⟩ := k4.sl
  obtain ⟨r5, m5, et5⟩ := k5.sl
  subst et4 et5
  obtain ⟨w13, hw13⟩ : ∃ w13, w12.alloc (.cells (styA o L2 G2 F2 (.slice r4 (sho lb).length m4) (.slice r5 0 m5)) 47) = w13 := ⟨_, rfl⟩
  have b1213 : Below w12.heap.size w12 w13 := by rw [← hw13]; exact (Below.refl _ w12).alloc (Nat.le_refl _) _
  have rt13 : w13.heap[w12.heap.size]? = some (.cells (styA o L2 G2 F2 (.slice r4 (sho lb).length m4) (.slice r5 0 m5)) 47 (0, 0)) := by rw [← hw13]; exact heap_alloc_new _ _
  obtain ⟨kt, hkt⟩ : ∃ kt, w12.heap.size = kt := ⟨_, rfl⟩
  rw [hkt] at rt13
  have b11D : Below w11.heap.size w11 w13.drew := b12.trans ((b1213.trans ((below_drew w13).mono b1213.size)).mono b12.size)
  have sA := S6.of ((b11D.block _ (Array.getElem?_eq_some_iff.1 HB.out.2.2.1).1).trans HB.out.2.2.1)
  have sT : S6 kt o L2 G2 F2 (sho lb).length 0 m4 m5 r4 r5 w13.drew := S6.of rt13
  have CA : Hid (Calls Tryd.prog 9 #[.pointer (some ⟨v, 0, none⟩)] w13.drew fun e w' => e = .returned (.int .i64 3) ∧ w' = w13.drew) := (HB.out.1.below b11D).jn.count
  have b12D : Below w12.heap.size w12 w13.drew := b1213.trans ((below_drew w13).mono b1213.size)
  have CE := mkHid (sameLists_eq w13.drew (k4.keep (stay_below b12D)) (HB.out.2.2.2.2.2.1.keep (stay_below b11D)) (by have := sho_len lb; omega))
  have CL : Hid (∀ w', Below w13.drew.heap.size w13.drew w' → Calls Tryd.prog 17 #[.pointer (some ⟨j, 0, none⟩)] w' fun e w'' => e = .returned (.int .i64 (last : Int)) ∧ w'' = w') := fun w' h => Last_any ((HB.out.1.below b11D).jn.below h)
  have HC := mkHid (And.intro k4 (And.intro k5 (And.intro b11D (And.intro b12D rt13))))
  unfold styA at hw13
  replace hw13 := mkHid hw13
  clear k4 k5 b12 b1213 b11D b12D rt13
  go_upto_region 11 with fail
  try rw [hw13.out]
  try rw [hkt]
  clear hw13 hkt
  go_region_held3 (fun w' => S6 (a + 1) live Ln gen first base.length bs.length q4 q5 p4 p5 w' ∧ S6 kt o L2 G2 F2 (sho lb).length 0 m4 m5 r4 r5 w') (first | assumption | exact ⟨sA, sT⟩ | exact sX)
    (first
      | (go_at_call 9; with_reducible refine Calls.mono CA.out ?_; rintro e w14 ⟨rfl, hw14⟩; subst hw14)
      | (go_at_call 15; with_reducible refine Calls.mono CE.out ?_; rintro e w14 ⟨rfl, hmx⟩; have KE := mkHid (show Below w13.drew.heap.size w13.drew w14 by obtain ⟨mm, hm⟩ := hmx; rw [hm]; exact below_drewN (Below.refl _ _) _); clear hmx; have sX := And.intro (sA.below KE.out) (sT.below KE.out))
      | (go_at_call 17; with_reducible refine Calls.mono (CL.out _ KE.out) ?_; rintro e w15 ⟨rfl, hw15⟩; subst hw15))
  have b11E : Below w11.heap.size w11 w15 := HC.out.2.2.1.trans (KE.out.mono HC.out.2.2.1.size)
  have jE := HB.out.1.below b11E
  have C13 := jE.at 3 x3 rfl
  rw [show ((3 : Nat) : Int) = 3 from rfl] at C13
  have HE := mkHid (And.intro b11E jE)
  clear CA CE CL sA sT b11E jE a1 a2 a3 a4
  go_wp2_with fail
  refine C13.mono ?_
  rintro e w16 ⟨c, rfl, g2, g3, rfl, d2, d3, z2, z3, d23, b16⟩
  clear C13 z2 z3 d23
  obtain ⟨m2, hm2⟩ : ∃ m, (cutP x3.1 0).1.length = m := ⟨_, rfl⟩
  obtain ⟨m3, hm3⟩ : ∃ m, (cutP x3.2 0).1.length = m := ⟨_, rfl⟩
  have hb3 := HB.out.2.2.2.2.2.2.2.b3
  have he3 := HB.out.2.2.2.2.2.2.2.e3
  have u2 := bl_row d2 (by rw [he3.1]; exact hb3.1) (by rw [he3.1]; have := hb3.2.2.1; unfold maxLen; omega)
  have u3 := bl_row d3 (by rw [he3.2]; exact hb3.2.1) (by rw [he3.2]; have := hb3.2.2.2; unfold maxLen; omega)
  rw [he3.1] at hm2 u2
  rw [he3.2] at hm3 u3
  unfold dkA
  rw [he3.1, he3.2, hm2, hm3]
  rw [hm2] at u2
  rw [hm3] at u3
  obtain ⟨w17, hw17⟩ : ∃ w17, w16.alloc (.cells #[.slice (some ⟨g2, 0, none⟩) m2 m2, .slice (some ⟨g3, 0, none⟩) m3 m3] 26) = w17 := ⟨_, rfl⟩
  have b1617 : Below w16.heap.size w16 w17 := by rw [← hw17]; exact (Below.refl _ w16).alloc (Nat.le_refl _) _
  have r17 : w17.heap[w16.heap.size]? = some (.cells #[.slice (some ⟨g2, 0, none⟩) m2 m2, .slice (some ⟨g3, 0, none⟩) m3 m3] 26 (0, 0)) := by rw [← hw17]; exact heap_alloc_new _ _
  obtain ⟨k17, hk17⟩ : ∃ k, w16.heap.size = k := ⟨_, rfl⟩
  rw [hk17] at r17
  have b16d : Below w16.heap.size w16 w17.drew := b1617.trans ((below_drew w17).mono b1617.size)
  have b14d : Below w15.heap.size w15 w17.drew := b16.trans (b16d.mono b16.size)
  have sA := sX.1.below b14d
  have cA0 : w17.drew.cell? ⟨k17, 0, none⟩ = some (.slice (some ⟨g2, 0, none⟩) m2 m2) := (cell_of_row w17.drew _ _ _ _ _ r17).trans rfl
  have cA1 : w17.drew.cell? ⟨k17, 1, none⟩ = some (.slice (some ⟨g3, 0, none⟩) m3 m3) := (cell_of_row w17.drew _ _ _ _ _ r17).trans rfl
  obtain ⟨gl, cAl⟩ : ∃ gl, w17.drew.cell? ⟨k17, live, none⟩ = some (.slice (some ⟨gl, 0, none⟩) 0 0) := by
    have hz := HB.out.2.2.2.2.2.2.2.z3
    obtain e | e : live = 0 ∨ live = 1 := by have := HQ.out.1.lv; omega
    · have : m2 = 0 := by rw [← hm2, show x3.1.1 = [] by rw [e] at hz; exact hz]; rfl
      exact ⟨g2, by rw [e, cA0, this]⟩
    · have : m3 = 0 := by rw [← hm3, show x3.2.1 = [] by rw [e] at hz; exact hz]; rfl
      exact ⟨g3, by rw [e, cA1, this]⟩
  have hl0 : (0 : Int) ≤ (live : Int) := by omega
  have hl1 : (live : Int) < 2 := by have := HQ.out.1.lv; omega
  have CD : Hid (Calls Tryd.prog 27 #[.pointer (some ⟨v, 0, none⟩)] w17.drew fun e w' => ∃ g4 g5, e = .returned (.agg #[.slice (some ⟨g4, 0, none⟩) m2 m2, .slice (some ⟨g5, 0, none⟩) m3 m3]) ∧ w'.heap[g4]? = some (.cells (Go.Proofs.YtfimaflglnemdaaDoor.bs x3.1.1).toArray 5 (0, 0)) ∧ w'.heap[g5]? = some (.cells (Go.Proofs.YtfimaflglnemdaaDoor.bs x3.2.1).toArray 5 (0, 0)) ∧ Below w17.drew.heap.size w17.drew w') := by
    refine (HE.out.2.below b14d).jn.disk.mono ?_
    rintro e w' ⟨c, rfl, g4, g5, rfl, f4, f5, -, -, -, bb⟩
    exact ⟨g4, g5, by unfold dkA; rw [hm2, hm3], f4, f5, bb⟩
  have CM : Hid (∀ w' g4 g5, w'.heap[g4]? = some (.cells (Go.Proofs.YtfimaflglnemdaaDoor.bs x3.1.1).toArray 5 (0, 0)) ∧ w'.heap[g5]? = some (.cells (Go.Proofs.YtfimaflglnemdaaDoor.bs x3.2.1).toArray 5 (0, 0)) ∧ Below w17.drew.heap.size w17.drew w' → Calls Tryd.prog 26 #[.agg #[.slice (some ⟨g2, 0, none⟩) m2 m2, .slice (some ⟨g3, 0, none⟩) m3 m3], .agg #[.slice (some ⟨g4, 0, none⟩) m2 m2, .slice (some ⟨g5, 0, none⟩) m3 m3]] w' fun e w2 => e = .returned (.bool true) ∧ Below w'.heap.size w' w2) := fun w' g4 g5 h => by
    have b := b16d.trans (h.2.2.mono b16d.size)
    have v4 := bl_row h.1 hb3.1 (by have := hb3.2.2.1; unfold maxLen; omega)
    have v5 := bl_row h.2.1 hb3.2.1 (by have := hb3.2.2.2; unfold maxLen; omega)
    rw [hm2] at v4
    rw [hm3] at v5
    exact same_eq (u2.below b) (u3.below b) v4 v5
  have HF := mkHid (And.intro b14d (And.intro b16 b16d))
  have sX2 := mkHid sX
  replace hw17 := mkHid hw17
  clear u2 u3 d2 d3 b16 b1617 b14d b16d r17 hb3 he3 hm2 hm3 sX
  go_upto_region 14 with fail
  try rw [hw17.out]
  try rw [hk17]
  clear hw17 hk17
  go_region_held3 (fun w' => S6 (a + 1) live Ln gen first base.length bs.length q4 q5 p4 p5 w' ∧ w'.cell? ⟨k17, 0, none⟩ = some (.slice (some ⟨g2, 0, none⟩) m2 m2) ∧ w'.cell? ⟨k17, 1, none⟩ = some (.slice (some ⟨g3, 0, none⟩) m3 m3) ∧ w'.cell? ⟨k17, live, none⟩ = some (.slice (some ⟨gl, 0, none⟩) 0 0)) (first | assumption | exact ⟨sA, cA0, cA1, cAl⟩ | exact sY | exact sZ)
    (first
      | (go_at_call 27; with_reducible refine Calls.mono CD.out ?_; rintro e w18 ⟨g4, g5, rfl, k18⟩; have sY := And.intro (sA.below k18.2.2) (And.intro (cell_below k18.2.2 cA0) (And.intro (cell_below k18.2.2 cA1) (cell_below k18.2.2 cAl))); replace k18 := mkHid k18)
      | (go_at_call 26; with_reducible refine Calls.mono (CM.out _ _ _ k18.out) ?_; rintro e w19 ⟨rfl, b19⟩; have sZ := And.intro (sY.1.below b19) (And.intro (cell_below b19 sY.2.1) (And.intro (cell_below b19 sY.2.2.1) (cell_below b19 sY.2.2.2))); have K19 := mkHid (k18.out.2.2.trans (b19.mono k18.out.2.2.size)); clear b19))
  have b11H : Below w11.heap.size w11 w19 := HE.out.1.trans ((HF.out.1.trans (K19.out.mono HF.out.1.size)).mono HE.out.1.size)
  have jH := HB.out.1.below b11H
  have C16 := jH.at 2 x2 rfl
  rw [show ((2 : Nat) : Int) = 2 from rfl] at C16
  have hcp := HB.out.2.2.2.2.2.2.2
  have b13H : Below w13.drew.heap.size w13.drew w19 := KE.out.trans ((HF.out.1.trans (K19.out.mono HF.out.1.size)).mono KE.out.size)
  have HH := mkHid (And.intro b11H (And.intro jH b13H))
  clear CD CM sA sY sZ cA0 cA1 cAl b11H jH b13H k18 K19
  go_wp2_with fail
  refine C16.mono ?_
  rintro e w20 ⟨c, rfl, h2, h3, rfl, d2, d3, z2, z3, d23, b20⟩
  clear C16 z2 z3 d23
  have v2 := bl_row d2 hcp.b2.1 (by have := hcp.b2.2.2.1; show (cutP x2.1 0).1.length ≤ maxLen; unfold maxLen; omega)
  have v3 := bl_row d3 hcp.b2.2.1 (by have := hcp.b2.2.2.2; show (cutP x2.2 0).1.length ≤ maxLen; unfold maxLen; omega)
  have hn2 := hcp.n2
  obtain ⟨u2, hu2⟩ : ∃ m, (cutP x2.1 0).1.length = m := ⟨_, rfl⟩
  obtain ⟨u3, hu3⟩ : ∃ m, (cutP x2.2 0).1.length = m := ⟨_, rfl⟩
  rw [hu2, hu3] at hn2
  unfold dkA
  rw [hu2, hu3]
  rw [hu2] at v2
  rw [hu3] at v3
  have pu2 : (0 : Int) < (u2 : Int) := by omega
  have pu3 : (0 : Int) < (u3 : Int) := by omega
  obtain ⟨w21, hw21⟩ : ∃ y, w20.alloc (.cells #[.slice (some ⟨h2, 0, none⟩) u2 u2, .slice (some ⟨h3, 0, none⟩) u3 u3] 26) = y := ⟨_, rfl⟩
  have b2021 : Below w20.heap.size w20 w21 := by rw [← hw21]; exact (Below.refl _ w20).alloc (Nat.le_refl _) _
  have r21 : w21.heap[w20.heap.size]? = some (.cells #[.slice (some ⟨h2, 0, none⟩) u2 u2, .slice (some ⟨h3, 0, none⟩) u3 u3] 26 (0, 0)) := by rw [← hw21]; exact heap_alloc_new _ _
  obtain ⟨k21, hk21⟩ : ∃ k, w20.heap.size = k := ⟨_, rfl⟩
  rw [hk21] at r21
  have b1121 : Below w11.heap.size w11 w21 := HH.out.1.trans ((b20.trans (b2021.mono b20.size)).mono HH.out.1.size)
  have hT21 : Tc w21 := HB.out.2.2.2.2.2.2.1.below b1121 HB.out.2.2.2.2.2.2.1.sz
  have e0 : w21.cell? ⟨k21, 0, none⟩ = some (.slice (some ⟨h2, 0, none⟩) u2 u2) := (cell_of_row _ _ _ _ _ _ r21).trans rfl
  have e1 : w21.cell? ⟨k21, 1, none⟩ = some (.slice (some ⟨h3, 0, none⟩) u3 u3) := (cell_of_row _ _ _ _ _ _ r21).trans rfl
  have C17 : Hid (Calls Tryd.prog 28 #[.agg #[.slice (some ⟨h2, 0, none⟩) u2 u2, .slice (some ⟨h3, 0, none⟩) u3 u3]] w21 fun e w' => ∃ t4 t5, e = .returned (.tuple #[.agg #[.int .i64 (o : Int), .int .i64 (L2 : Int), .int .i64 (G2 : Int), .int .i64 (F2 : Int), t4, t5], .int .i64 0, .int .i64 0, .int .i64 0]) ∧ Ll w21.heap.size w' t4 (sho lb) ∧ Lb w21.heap.size w' t5 [] ∧ Below w21.heap.size w21 w') := by
    rw [← hG2'.out, ← hF2'.out]
    exact replay_story w21 (v2.below b2021) (v3.below b2021) hT21 hcp.r2
  have b1921 : Below w19.heap.size w19 w21 := b20.trans (b2021.mono b20.size)
  have HI := mkHid (And.intro b1121 (And.intro r21 (And.intro hcp b1921)))
  replace hw21 := mkHid hw21
  clear v2 v3 d2 d3 b20 b2021 b1121 b1921 hT21 r21 hcp hn2 hu2 hu3
  go_upto_region 17 with fail
  try rw [hw21.out]
  try rw [hk21]
  clear hw21 hk21
  go_wp2_with fail
  refine C17.out.mono ?_
  rintro e w22 ⟨y4, y5, rfl, i4, i5, b22⟩
  clear C17 e0 e1
  obtain ⟨a4, s4, ey4⟩ := i4.sl
  obtain ⟨a5, s5, ey5⟩ := i5.sl
  subst ey4 ey5
  obtain ⟨w23, hw23⟩ : ∃ y, w22.alloc (.cells (styA o L2 G2 F2 (.slice a4 (sho lb).length s4) (.slice a5 0 s5)) 47) = y := ⟨_, rfl⟩
  have b2223 : Below w22.heap.size w22 w23 := by rw [← hw23]; exact (Below.refl _ w22).alloc (Nat.le_refl _) _
  have r23 : w23.heap[w22.heap.size]? = some (.cells (styA o L2 G2 F2 (.slice a4 (sho lb).length s4) (.slice a5 0 s5)) 47 (0, 0)) := by rw [← hw23]; exact heap_alloc_new _ _
  obtain ⟨k23, hk23⟩ : ∃ k, w22.heap.size = k := ⟨_, rfl⟩
  rw [hk23] at r23
  have b2123 : Below w21.heap.size w21 w23 := b22.trans (b2223.mono b22.size)
  have b1123 := HI.out.1.trans (b2123.mono HI.out.1.size)
  have C18 := (HB.out.1.below b1123).at 1 x1 rfl
  rw [show ((1 : Nat) : Int) = 1 from rfl] at C18
  have HJ := mkHid (And.intro b1123 (And.intro r23 (And.intro (i4.keep (stay_below b2223)) (And.intro (i5.keep (stay_below b2223)) b2123))))
  unfold styA at hw23
  replace hw23 := mkHid hw23
  clear i4 i5 b22 b2223 r23 b2123 b1123
  go_upto_region 18 with fail
  try rw [hw23.out]
  try rw [hk23]
  clear hw23 hk23
  go_wp2_with fail
  refine C18.mono ?_
  rintro e w24 ⟨c, rfl, h4, h5, rfl, d4, d5, z4, z5, d45, b24⟩
  clear C18 z4 z5 d45
  have hcp := HI.out.2.2.1
  have v4 := bl_row d4 hcp.b1.1 (by have := hcp.b1.2.2.1; show (cutP x1.1 0).1.length ≤ maxLen; unfold maxLen; omega)
  have v5 := bl_row d5 hcp.b1.2.1 (by have := hcp.b1.2.2.2; show (cutP x1.2 0).1.length ≤ maxLen; unfold maxLen; omega)
  obtain ⟨u4, hu4⟩ : ∃ m, (cutP x1.1 0).1.length = m := ⟨_, rfl⟩
  obtain ⟨u5, hu5⟩ : ∃ m, (cutP x1.2 0).1.length = m := ⟨_, rfl⟩
  unfold dkA
  rw [hu4, hu5]
  rw [hu4] at v4
  rw [hu5] at v5
  obtain ⟨w25, hw25⟩ : ∃ y, w24.alloc (.cells #[.slice (some ⟨h4, 0, none⟩) u4 u4, .slice (some ⟨h5, 0, none⟩) u5 u5] 26) = y := ⟨_, rfl⟩
  have b2425 : Below w24.heap.size w24 w25 := by rw [← hw25]; exact (Below.refl _ w24).alloc (Nat.le_refl _) _
  have r25 : w25.heap[w24.heap.size]? = some (.cells #[.slice (some ⟨h4, 0, none⟩) u4 u4, .slice (some ⟨h5, 0, none⟩) u5 u5] 26 (0, 0)) := by rw [← hw25]; exact heap_alloc_new _ _
  obtain ⟨k25, hk25⟩ : ∃ k, w24.heap.size = k := ⟨_, rfl⟩
  rw [hk25] at r25
  have b2325 : Below w23.heap.size w23 w25 := b24.trans (b2425.mono b24.size)
  have b1125 := HJ.out.1.trans (b2325.mono HJ.out.1.size)
  have hT25 : Tc w25 := HB.out.2.2.2.2.2.2.1.below b1125 HB.out.2.2.2.2.2.2.1.sz
  have e0 : w25.cell? ⟨k25, 0, none⟩ = some (.slice (some ⟨h4, 0, none⟩) u4 u4) := (cell_of_row _ _ _ _ _ _ r25).trans rfl
  have e1 : w25.cell? ⟨k25, 1, none⟩ = some (.slice (some ⟨h5, 0, none⟩) u5 u5) := (cell_of_row _ _ _ _ _ _ r25).trans rfl
  have C19 : Hid (Calls Tryd.prog 28 #[.agg #[.slice (some ⟨h4, 0, none⟩) u4 u4, .slice (some ⟨h5, 0, none⟩) u5 u5]] w25 fun e w' => ∃ t4 t5, e = .returned (.tuple #[.agg #[.int .i64 (live : Int), .int .i64 (Ln : Int), .int .i64 (gen : Int), .int .i64 (first : Int), t4, t5], .int .i64 0, .int .i64 0, .int .i64 0]) ∧ Ll w25.heap.size w' t4 base ∧ Lb w25.heap.size w' t5 bs ∧ Below w25.heap.size w25 w') := replay_story w25 (v4.below b2425) (v5.below b2425) hT25 hcp.r1
  have HK := mkHid (And.intro b1125 b2325)
  replace hw25 := mkHid hw25
  clear v4 v5 d4 d5 b24 b2425 b1125 b2325 hT25 r25 hcp hu4 hu5
  go_upto_region 19 with fail
  try rw [hw25.out]
  try rw [hk25]
  clear hw25 hk25
  go_wp2_with fail
  refine C19.out.mono ?_
  rintro e w26 ⟨y4, y5, rfl, i4, i5, b26⟩
  clear C19 e0 e1
  obtain ⟨a6, s6, ey4⟩ := i4.sl
  obtain ⟨a7, s7, ey5⟩ := i5.sl
  subst ey4 ey5
  obtain ⟨w27, hw27⟩ : ∃ y, w26.alloc (.cells (styA live Ln gen first (.slice a6 base.length s6) (.slice a7 bs.length s7)) 47) = y := ⟨_, rfl⟩
  have b2627 : Below w26.heap.size w26 w27 := by rw [← hw27]; exact (Below.refl _ w26).alloc (Nat.le_refl _) _
  have r27 : w27.heap[w26.heap.size]? = some (.cells (styA live Ln gen first (.slice a6 base.length s6) (.slice a7 bs.length s7)) 47 (0, 0)) := by rw [← hw27]; exact heap_alloc_new _ _
  obtain ⟨k27, hk27⟩ : ∃ k, w26.heap.size = k := ⟨_, rfl⟩
  rw [hk27] at r27
  have b2527 : Below w25.heap.size w25 w27 := b26.trans (b2627.mono b26.size)
  have b2327 := HK.out.2.trans (b2527.mono HK.out.2.size)
  have b2127 := HJ.out.2.2.2.2.trans (b2327.mono HJ.out.2.2.2.2.size)
  have b1127 := HK.out.1.trans (b2527.mono HK.out.1.size)
  have b1927 := HI.out.2.2.2.trans (b2127.mono HI.out.2.2.2.size)
  have b1327 := HH.out.2.2.trans (b1927.mono HH.out.2.2.size)
  have b1227 := HC.out.2.2.2.1.trans (b1327.mono HC.out.2.2.2.1.size)
  have hB11 := b1127
  have rA27 := (b1127.block _ (Array.getElem?_eq_some_iff.1 HB.out.2.2.1).1).trans HB.out.2.2.1
  have rT13 : w13.drew.heap[kt]? = _ := HC.out.2.2.2.2
  have rT27 := (b1327.block _ (Array.getElem?_eq_some_iff.1 rT13).1).trans rT13
  have rU27 := (b2327.block _ (Array.getElem?_eq_some_iff.1 HJ.out.2.1).1).trans HJ.out.2.1
  have rB27 := (b2127.block _ (Array.getElem?_eq_some_iff.1 HI.out.2.1).1).trans HI.out.2.1
  have C20 : Hid (Calls Tryd.prog 19 #[.agg #[.int .i64 (o : Int), .int .i64 (L2 : Int), .int .i64 (G2 : Int), .int .i64 (F2 : Int), .slice a4 (sho lb).length s4, .slice a5 0 s5], .agg #[.int .i64 (o : Int), .int .i64 (L2 : Int), .int .i64 (G2 : Int), .int .i64 (F2 : Int), .slice r4 (sho lb).length m4, .slice r5 0 m5]] w27 fun e w' => e = .returned (.bool true) ∧ Below w27.heap.size w27 w') := sameStory_eq w27 (HJ.out.2.2.1.keep (stay_below b2327)) (HJ.out.2.2.2.1.keep (stay_below b2327)) (HC.out.1.keep (stay_below b1227)) (HC.out.2.1.keep (stay_below b1227)) (by have := sho_len lb; omega) (by decide) (fun y h => by cases h)
  have C21 : Hid (∀ w28, Below w27.heap.size w27 w28 → Calls Tryd.prog 19 #[.agg #[.int .i64 (live : Int), .int .i64 (Ln : Int), .int .i64 (gen : Int), .int .i64 (first : Int), .slice a6 base.length s6, .slice a7 bs.length s7], .agg #[.int .i64 (live : Int), .int .i64 (Ln : Int), .int .i64 (gen : Int), .int .i64 (first : Int), .slice p4 base.length q4, .slice p5 bs.length q5]] w28 fun e w' => e = .returned (.bool true) ∧ Below w28.heap.size w28 w') := fun w28 b28 => by
    have b1128 := hB11.trans (b28.mono hB11.size)
    have b2628 := b2627.trans (b28.mono b2627.size)
    exact sameStory_eq w28 (i4.keep (stay_below b2628)) (i5.keep (stay_below b2628)) (HB.out.2.2.2.1.keep (stay_below b1128)) (HB.out.2.2.2.2.1.keep (stay_below b1128)) (by have := HQ.out.1.gb.n; omega) (by have := HQ.out.1.f2; omega) (fun y hy => by have := HQ.out.1.s20 y hy; omega)
  have sA := S6.of rA27
  have sT : S6 kt o L2 G2 F2 (sho lb).length 0 m4 m5 r4 r5 w27 := S6.of rT27
  have sU : S6 k23 o L2 G2 F2 (sho lb).length 0 s4 s5 a4 a5 w27 := S6.of rU27
  have sV : S6 k27 live Ln gen first base.length bs.length s6 s7 a6 a7 w27 := S6.of r27
  have f0 : w27.cell? ⟨k21, 0, none⟩ = some (.slice (some ⟨h2, 0, none⟩) u2 u2) := (cell_of_row _ _ _ _ _ _ rB27).trans rfl
  have f1 : w27.cell? ⟨k21, 1, none⟩ = some (.slice (some ⟨h3, 0, none⟩) u3 u3) := (cell_of_row _ _ _ _ _ _ rB27).trans rfl
  have HL := mkHid (And.intro b1127 (And.intro sA (And.intro sV (And.intro f0 f1))))
  obtain ⟨tA0, tA1, tA2, tA3, tA4, tA5⟩ := sT
  obtain ⟨uA0, uA1, uA2, uA3, uA4, uA5⟩ := sU
  unfold styA at hw27
  replace hw27 := mkHid hw27
  clear sA sV f0 f1 rA27 rT13 rT27 rU27 rB27 b1927 b1327 b1227 hB11 b1127 b2127 b2327 b2527 b2627 b26 r27 i4 i5 HJ HI HH HK HC
  go_upto_region 20 with fail
  try rw [hw27.out]
  try rw [hk27]
  clear hw27 hk27
  go_wp2_with fail
  refine C20.out.mono ?_
  rintro e w28 ⟨rfl, b28⟩
  clear C20 tA0 tA1 tA2 tA3 tA4 tA5 uA0 uA1 uA2 uA3 uA4 uA5
  obtain ⟨tA0, tA1, tA2, tA3, tA4, tA5⟩ := HL.out.2.1.below b28
  obtain ⟨uA0, uA1, uA2, uA3, uA4, uA5⟩ := HL.out.2.2.1.below b28
  have C22 := C21.out w28 b28
  go_wp2_with fail
  refine C22.mono ?_
  rintro e w29 ⟨rfl, b29⟩
  clear C21 C22 tA0 tA1 tA2 tA3 tA4 tA5 uA0 uA1 uA2 uA3 uA4 uA5
  have b2729 := b28.trans (b29.mono b28.size)
  have f0 := cell_below b2729 HL.out.2.2.2.1
  have f1 := cell_below b2729 HL.out.2.2.2.2
  have HZ := mkHid (HB.out.2.1.trans ((HL.out.1.trans (b2729.mono HL.out.1.size)).mono HB.out.2.1.size))
  clear b28 b29 b2729
  go_wp2_with fail
  go_ret
  refine ⟨?_, HZ.out⟩
  show Ending.returned (Value.bool (decide (0 < u3))) = _
  rw [decide_eq_true (by omega)]
end Dev
end Go.Proofs.YtfimaflglnemdaaDoor
