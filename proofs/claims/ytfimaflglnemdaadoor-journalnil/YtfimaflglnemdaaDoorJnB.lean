/- JournalNil: the law. -/
import Derived.Test.YtfimaflglnemdaaDoorJnC
import Derived.Test.YtfimaflglnemdaaDoorJyA
import Derived.Test.YtfimaflglnemdaaDoorJzS
namespace Go.Proofs.YtfimaflglnemdaaDoor
open Go.RowKit
open JM
set_option maxRecDepth 20000
namespace Nl
theorem ss_nil (W : World) : Ss W (.slice none 0 0) [] := ⟨none, 0, rfl, Nat.le_refl _, Nat.zero_le _, fun i h => absurd h (Nat.not_lt_zero i)⟩
theorem eqF (d : Nat) (w : World) (f : Nat) (fi ca : Array Value) : (Op.equalIn (d + 1) 56 (.func (.func f) fi ca) .nilFunc).run Tryd.prog w = .ok false w := by
  simp only [Op.equalIn, Sem.run_bind, run_underlying Tryd.underlying56, Result.andThen_ok, Sem.run_pure]
theorem neqF (w : World) (f : Nat) (fi ca : Array Value) : (binOp .neq 56 (.func (.func f) fi ca) .nilFunc).run Tryd.prog w = .ok (.bool true) w := by
  show ((do pure (.bool (!(← Op.equal 56 (.func (.func f) fi ca) .nilFunc))) : Sem Value)).run Tryd.prog w = _
  rw [Sem.run_bind, show (Op.equal 56 (.func (.func f) fi ca) .nilFunc).run Tryd.prog w = _ from eqF 9999 w f fi ca]
  rfl
attribute [local go_sem ↓] neqF in
set_option maxRecDepth 100000 in
set_option maxHeartbeats 3200000 in
theorem nil_any (W : World) (hT : Tc W) :
    Calls Tryd.prog 6 #[] W fun e w' => e = .returned (.bool true) ∧ Below W.heap.size W w' := by
  obtain ⟨V, hV⟩ : ∃ V, W.alloc (.cells #[.bool false] 4) = V := ⟨_, rfl⟩
  have bV : Below W.heap.size W V := by rw [← hV]; exact (Below.refl _ W).alloc (Nat.le_refl _) _
  have rV : V.heap[W.heap.size]? = some (.cells #[.bool false] 4 (0, 0)) := by rw [← hV]; exact heap_alloc_new _ _
  have C1 := Dev.grown_any V (ss_nil V) (hT.below bV hT.sz)
  refine callsIn_wide.1 (callsIn_of_wp_marks (n := 5) Tryd.func6 rfl trivial (wpIn_wide.2 ?_) rfl)
  simp only [Tryd.ntmps6, List.size_toArray, List.length_nil, Nat.reduceSub, Array.replicate_succ, Array.replicate_zero, List.push_toArray, List.append_toArray, List.nil_append, List.cons_append]
  go_upto_region 1 with fail
  try rw [hV]
  go_wp2_with fail
  refine C1.mono ?_
  rintro e w1 ⟨live, gen, first, base, bs, x, cA, t4, t5, rfl, hD, h4, h5, fx, fo, hq⟩
  clear C1
  obtain ⟨g0, g1, e, -, -, -, -, -, b1⟩ := id hD
  subst e
  obtain ⟨p4, q4, e4⟩ := h4.sl
  obtain ⟨p5, q5, e5⟩ := h5.sl
  subst e4 e5
  have H1 := mkHid (And.intro rV (And.intro bV b1))
  clear hD h4 h5 fx fo hq b1 rV bV hV
  unfold Dev.dkA styA
  go_wp2_with fail
  refine (AtN _).mono ?_
  rintro e w2 ⟨rfl, b2⟩
  obtain ⟨A, hA⟩ : ∃ A, w2.alloc (.cells #[.slice none 0 0, .slice none 0 0] 26) = A := ⟨_, rfl⟩
  have b2A : Below w2.heap.size w2 A := by rw [← hA]; exact (Below.refl _ w2).alloc (Nat.le_refl _) _
  have rA : A.heap[w2.heap.size]? = some (.cells #[.slice none 0 0, .slice none 0 0] 26 (0, 0)) := by rw [← hA]; exact heap_alloc_new _ _
  replace hA := mkHid hA
  obtain ⟨k, hk⟩ : ∃ k, w2.heap.size = k := ⟨_, rfl⟩
  rw [hk] at rA
  go_wp2_with fail
  rw [hA.out]
  try rw [hk]
  clear hA
  refine (AppendN _ _ _ _).mono ?_
  rintro e w3 ⟨rfl, b3⟩
  go_wp2_with fail
  refine (SyncN _).mono ?_
  rintro e w4 ⟨rfl, b4⟩
  go_wp2_with fail
  refine (CutN _).mono ?_
  rintro e w5 ⟨rfl, b5⟩
  have bA5 : Below A.heap.size A w5 := ((Below.refl _ A).alloc (Nat.le_refl _) _).trans ((b3.trans ((b4.trans (b5.mono b4.size)).mono b3.size)).mono (by simp))
  have c0 : w5.cell? ⟨k, 0, none⟩ = some (.slice none 0 0) := cell_below bA5 ((cell_of_row _ _ _ _ _ _ rA).trans rfl)
  have c1 : w5.cell? ⟨k, 1, none⟩ = some (.slice none 0 0) := cell_below bA5 ((cell_of_row _ _ _ _ _ _ rA).trans rfl)
  have H2 := mkHid (And.intro b2 (And.intro b2A bA5))
  clear b2 b2A bA5 b3 b4 b5 rA hk
  go_wp2_with fail
  refine (CountN _).mono ?_
  rintro e w6 ⟨rfl, hw⟩
  subst hw
  go_wp2_with fail
  refine (same_eq (bl_none _) (bl_none _) (bl_none _) (bl_none _)).mono ?_
  rintro e w7 ⟨rfl, b7⟩
  clear c0 c1
  go_wp2_with fail
  refine (DiskN _).mono ?_
  rintro e w8 ⟨rfl, b8⟩
  go_wp2_with fail
  refine (same_eq (bl_none _) (bl_none _) (bl_none _) (bl_none _)).mono ?_
  rintro e w9 ⟨rfl, b9⟩
  go_wp2_with fail
  refine (CommitN _ _).mono ?_
  rintro e w10 ⟨rfl, hw⟩
  subst hw
  go_wp2_with fail
  refine (CompactN _ _).mono ?_
  rintro e w11 ⟨rfl, hw⟩
  subst hw
  go_wp2_with fail
  refine (StoryN _).mono ?_
  rintro e w12 ⟨rfl, b12⟩
  go_wp2_with fail
  refine (sameStory_eq w12 (n0 := 0) (n1 := 0) (n2 := 0) (n3 := 0) (Ll.nil 0 w12) (Lb.nil 0 w12) (Ll.nil 0 w12) (Lb.nil 0 w12) (by decide) (by decide) (fun x h => by cases h)).mono ?_
  rintro e w13 ⟨rfl, b13⟩
  go_wp2_with fail
  refine (LastN _).mono ?_
  rintro e w14 ⟨rfl, hw⟩
  subst hw
  go_wp2_with fail
  refine (RoomN _).mono ?_
  rintro e w15 ⟨rfl, hw⟩
  subst hw
  go_wp2_with fail
  refine (OpenN _).mono ?_
  rintro e w16 ⟨rfl, hw⟩
  subst hw
  go_wp2_with fail
  refine (EachN _).mono ?_
  rintro e w17 ⟨rfl, hw17⟩
  obtain ⟨kb, hkb⟩ : ∃ kb, w16.heap.size = kb := ⟨_, rfl⟩
  have cE : w17.cell? ⟨kb, 0, none⟩ = some (.pointer none) := by rw [hw17, ← hkb]; exact (cell_of_row _ _ _ _ _ _ (heap_alloc_new _ _)).trans rfl
  have b17 : Below w16.heap.size w16 w17 := by rw [hw17]; exact (Below.refl _ w16).alloc (Nat.le_refl _) _
  have b1317 : Below w12.heap.size w12 w17 := b13.trans (b17.mono b13.size)
  have b517 := b7.trans ((b8.trans (b9.mono b8.size)).mono b7.size)
  have q1 : Below W.heap.size W w1 := H1.out.2.1.trans (H1.out.2.2.mono H1.out.2.1.size)
  have q2 : Below w1.heap.size w1 w2 := (below2 w1 _ _).trans (H2.out.1.mono (by simp; omega))
  have q3 := q2.trans (H2.out.2.1.mono q2.size)
  have q4 := q3.trans (H2.out.2.2.mono q3.size)
  have q5 := q4.trans (b517.mono q4.size)
  have q6 : Below w9.heap.size w9 w12 := (below2 w9 _ _).trans (b12.mono (by simp; omega))
  have q7 := q6.trans (b1317.mono q6.size)
  have q8 := q5.trans (q7.mono q5.size)
  have bV17 := H1.out.2.2.trans (q8.mono H1.out.2.2.size)
  have bW17 := q1.trans (q8.mono q1.size)
  have rR := (bV17.block _ (Array.getElem?_eq_some_iff.1 H1.out.1).1).trans H1.out.1
  have cR : w17.cell? ⟨W.heap.size, 0, none⟩ = some (.bool false) := (cell_of_row _ _ _ _ _ _ rR).trans rfl
  have hz : W.heap.size < w17.heap.size := (Array.getElem?_eq_some_iff.1 rR).1
  have fR : w17.frozen? ⟨W.heap.size, 0, none⟩ = false := frozen_of_row _ _ _ _ _ rR
  rw [hkb]
  clear hw17 b17 b1317 b517 q1 q2 q3 q4 q5 q6 q7 q8 bV17 rR b7 b8 b9 b12 b13 hkb H1 H2
  go_wp2_with fail
  refine wpIn_wide.1 (wpIn_rangeFunc_ownF (F := Fence.wide) (n := 5) rfl (by decide) (gf := 43) (lb := #[.pointer (some ⟨kb, 0, none⟩)]) rfl trivial (enters_of Tryd.func43 (by kernel_rfl) rfl)
    (each_nil 4 kb w17 cE (fun _ _ => True)) (fun _ _ => trivial) (fun _ _ _ _ _ _ _ _ => trivial) (Below.refl _ _) (fun x => x.elim)
    (fun _ W' => (W'.cell? ⟨W.heap.size, 0, none⟩ = some (.bool false) ∧ W'.frozen? ⟨W.heap.size, 0, none⟩ = false) ∧ Below W.heap.size W W')
    (fun _ _ _ => False)
    (OwnFrom.and (Own.from (fun s A B row hs hg hr => ⟨cell_kept hs.1 hg hr, (frozen_kept hs.1 hg hr).trans hs.2⟩) _) (ownFrom_below (Nat.le_refl _) bW17.size))
    (fun _ _ _ _ _ hs _ _ => hs)
    ⟨⟨cR, fR⟩, bW17⟩
    (fun x => x.elim) ?assign ?body ?done ?stop)
  case assign => exact fun l x => x.elim
  case body => exact fun l pre x => x.elim
  case stop => exact fun D c pre W' _ _ h _ => h.elim
  case done =>
    rintro D ys W' hD - ⟨⟨hc, hf⟩, hB⟩ hK
    have hDW : W.heap.size ≤ D := by omega
    clear cE cR fR bW17
    go_wp2_with fail
    have hK' := (KeepsOthers.setCell W' ⟨W.heap.size, 0, none⟩ (.bool true)).same D _ hK rfl
    refine ⟨by simp, .inl ⟨_, _, rfl, run_takeDeferred hK', ?_⟩⟩
    have hc5 := cell_kept (World.cell?_setCell_same' W' ⟨W.heap.size, 0, none⟩ (.bool true) (by rw [hc]; rfl)) (grownBy_putObj' _ D (.deferred none)) (fun r e => by cases e; exact ⟨_, hK', rfl⟩)
    refine ⟨.bool true, ?_, rfl, (hB.setCell (p := ⟨W.heap.size, 0, none⟩) (Nat.le_refl _) _).trans (belowK_b (w := W) (Nat.le_refl _) _ D _ _ hDW hK' rfl rfl)⟩
    simp [results, Tryd.f6, go_sem, hc5]
end Nl
end Go.Proofs.YtfimaflglnemdaaDoor
