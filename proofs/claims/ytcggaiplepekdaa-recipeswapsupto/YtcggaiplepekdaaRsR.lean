/- RecipeSwaps: the law. -/
import Derived.Test.YtcggaiplepekdaaRcL
import Derived.Test.YtcggaiplepekdaaRsQ
namespace Go.Proofs.Ytcggaiplepekdaa
open Go.RowKit
theorem turn_a {R : Rcp} {M : Nat} (h : ∀ x ∈ R.a, x.size ≤ M) : ∀ x ∈ (turnR R).a, x.size ≤ M + TUR.size := by
  have ea : ∀ Q : Rcp, (tE Q).a = Q.a := fun Q => by unfold tE; split <;> rfl
  unfold turnR
  rw [ea]
  have key : ∀ Q : Rcp, (∀ x ∈ Q.a, x.size ≤ M) → ∀ x ∈ (tA Q).a, x.size ≤ M + TUR.size := fun Q hQ => by
    unfold tA
    split
    · rename_i x hx
      intro z hz
      rcases List.mem_or_eq_of_mem_set hz with q | q
      · exact Nat.le_trans (hQ z q) (Nat.le_add_right _ _)
      · rw [q, ByteArray.size_append]
        have := hQ x (List.mem_of_getElem? hx)
        omega
    · exact fun z hz => Nat.le_trans (hQ z hz) (Nat.le_add_right _ _)
  refine key _ ?_
  rw [(tS_a _).1, (tN_a _).1, (tO_a _).1]
  exact h
theorem turn_v {R : Rcp} {M : Nat} (h : ∀ p ∈ R.e, p.2.size ≤ M) : ∀ p ∈ (turnR R).e, p.2.size ≤ M + TUR.size := by
  have he : ∀ Q : Rcp, (∀ p ∈ Q.e, p.2.size ≤ M) → ∀ p ∈ (tE Q).e, p.2.size ≤ M + TUR.size := fun Q hQ => by
    unfold tE
    split
    · rename_i x hx
      intro z hz
      rcases List.mem_or_eq_of_mem_set hz with q | q
      · exact Nat.le_trans (hQ z q) (Nat.le_add_right _ _)
      · rw [q]
        show (x.2 ++ TUR).size ≤ _
        rw [ByteArray.size_append]
        have := hQ x (List.mem_of_getElem? hx)
        omega
    · exact fun z hz => Nat.le_trans (hQ z hz) (Nat.le_add_right _ _)
  unfold turnR
  refine he _ ?_
  rw [tA_e, (tS_a _).2, (tN_a _).2, (tO_a _).2]
  exact h
section
attribute [local go_sem ↓] toLdR toStM
set_option maxRecDepth 100000 in
set_option maxHeartbeats 3200000 in
theorem swaps_any (W : World) (o n s a e : Value) (R : Rcp) (hs : Sm R) (hz : ∀ p ∈ R.e, p.1.size ≤ 1000000000 ∧ p.2.size ≤ 1000000000) (hza : ∀ x ∈ R.a, x.size ≤ 1000000000) (hzo : ∀ x ∈ R.o, x.1.size ≤ 1000000000 ∧ x.2.2.2.size ≤ 1000000000) (h : Rc W o n s a e R) (fv tv : Value) (fr to : List S) (hf : Ls W fv 1 (fr.map sR)) (ht : Ls W tv 1 (to.map sR)) (hbd : Bd R fr to) (hbt : Bd (turnR R) fr to) :
    Calls Try.prog 4 #[.agg (rV o n s R.sys R.bld a e), fv, tv] W fun en w' => en = .returned (.bool true) ∧ Below W.heap.size W w' := by
  obtain ⟨of, cf, hfv⟩ := hf.form
  obtain ⟨nf, hnf⟩ : ∃ k, (fr.map sR).length = k := ⟨_, rfl⟩
  rw [hnf] at hfv
  subst hfv
  obtain ⟨ot, ct, htv⟩ := ht.form
  obtain ⟨nt, hnt⟩ : ∃ k, (to.map sR).length = k := ⟨_, rfl⟩
  rw [hnt] at htv
  subst htv
  obtain ⟨B, hB⟩ : ∃ B, W.alloc (.cells (rV o n s R.sys R.bld a e) 27) = B := ⟨_, rfl⟩
  have bB : Below W.heap.size W B := by rw [← hB]; exact below_al _ _
  have rB : B.heap[W.heap.size]? = some (.cells (rV o n s R.sys R.bld a e) 27 (0, 0)) := by rw [← hB]; exact heap_alloc_new _ _
  have hBz : W.heap.size < B.heap.size := by rw [← hB]; simp
  have C5 : Hid _ := room_any B o n s a e R hs (h.below bB)
  have l1 := ld_R B W.heap.size _ rfl rB
  have HH : Hid (Sm R ∧ Rc W o n s a e R ∧ (Ls W (.slice of nf cf) 1 (fr.map sR) ∧ Ls W (.slice ot nt ct) 1 (to.map sR)) ∧ (Bd R fr to ∧ Bd (turnR R) fr to) ∧ Below W.heap.size W B ∧ B.heap[W.heap.size]? = some (.cells (rV o n s R.sys R.bld a e) 27 (0, 0)) ∧ W.heap.size < B.heap.size) := ⟨hs, h, ⟨hf, ht⟩, ⟨hbd, hbt⟩, bB, rB, hBz⟩
  have HZ : Hid ((∀ p ∈ R.e, p.1.size ≤ 1000000000 ∧ p.2.size ≤ 1000000000) ∧ (∀ x ∈ R.a, x.size ≤ 1000000000) ∧ (∀ x ∈ R.o, x.1.size ≤ 1000000000 ∧ x.2.2.2.size ≤ 1000000000)) := ⟨hz, hza, hzo⟩
  have HB : Hid (_ = B) := hB
  rw [← hB] at l1
  unfold rV at HB l1
  unfold rV
  clear h hs hz hza hzo hf ht hbd hbt hnf hnt bB rB hBz hB
  go_enter Try.func4, Try.ntmps4
  go_wp2_with fail
  rw [HB.out]
  refine Calls.mono C5.out ?_
  rintro en w1 ⟨o', n', s', a', e', l', us, ls, rfl, rl, b1⟩
  obtain ⟨yo, mo, po, rfl⟩ : ∃ a n c, o' = Value.slice a n c := by
    obtain ⟨a, c, q, -⟩ := rl.fo.form
    exact ⟨a, _, c, q⟩
  obtain ⟨yn, mn, pn, rfl⟩ : ∃ a n c, n' = Value.slice a n c := by
    obtain ⟨a, c, q, -⟩ := rl.fn.form
    exact ⟨a, _, c, q⟩
  obtain ⟨ys, ms, ps, rfl⟩ : ∃ a n c, s' = Value.slice a n c := by
    obtain ⟨a, c, q, -⟩ := rl.fs.form
    exact ⟨a, _, c, q⟩
  obtain ⟨ya, ma, pa, rfl⟩ : ∃ a n c, a' = Value.slice a n c := by
    obtain ⟨a, c, q, -⟩ := rl.fa.form
    exact ⟨a, _, c, q⟩
  obtain ⟨ye, me, pe, rfl⟩ : ∃ a n c, e' = Value.slice a n c := by
    obtain ⟨a, c, q, -⟩ := rl.fe.form
    exact ⟨a, _, c, q⟩
  obtain ⟨yl, ml, pl, rfl⟩ : ∃ a n c, l' = Value.slice a n c := by
    obtain ⟨a, c, q, -⟩ := rl.fl.form
    exact ⟨a, _, c, q⟩
  obtain ⟨M, hM⟩ : ∃ M : Array Value, M = rmV (.slice yo mo po) (.slice yn mn pn) (.slice ys ms ps) (.slice ya ma pa) (.slice ye me pe) (.slice yl ml pl) := ⟨_, rfl⟩
  obtain ⟨X, hX⟩ : ∃ X, (w1.alloc (.cells zM 30)).setRow w1.heap.size M = X := ⟨_, rfl⟩
  have sX := st_M (w1.alloc (.cells zM 30)) w1.heap.size zM M rfl (by rw [hM]; rfl) (by rw [hM]; simp [rmV, Value.oneCell']) (heap_alloc_new _ _)
  have rX : X.heap[w1.heap.size]? = some (.cells M 30 (0, 0)) := by rw [← hX]; exact setRow_heap _ _ _ _ _ _ (heap_alloc_new _ _)
  have bX : Below w1.heap.size w1 X := by rw [← hX]; exact below_setRow (below_al _ _) (Nat.le_refl _) _
  rw [hX] at sX
  have bBX : Below B.heap.size B X := b1.trans (bX.mono b1.size)
  have bWX : Below W.heap.size W X := HH.out.2.2.2.2.1.trans (bBX.mono HH.out.2.2.2.2.1.size)
  have l2 := ld_R X W.heap.size _ rfl ((bBX.block _ HH.out.2.2.2.2.2.2).trans HH.out.2.2.2.2.2.1)
  have rlX := rl.below bX
  rw [hM] at rX
  have C6 : Hid _ := swapped_any X B.heap.size w1.heap.size _ _ _ _ _ _ us ls R HH.out.1 rlX rX o n s a e (HH.out.2.1.below bWX) (.slice of nf cf) (.slice ot nt ct) fr to (HH.out.2.2.1.1.below bWX) (HH.out.2.2.1.2.below bWX) HH.out.2.2.2.1.1
  have HX : Hid (Rl B.heap.size X _ _ _ _ _ _ us ls R ∧ X.heap[w1.heap.size]? = _ ∧ Below B.heap.size B X ∧ Below W.heap.size W X) := ⟨rlX, rX, bBX, bWX⟩
  rw [hM] at sX
  unfold rmV zM at sX
  unfold rV at l2
  unfold rmV
  clear C5 l1 rl b1 bX bBX bWX rlX rX hM hX
  go_wp2_with fail
  refine Calls.mono C6.out ?_
  rintro en w2 ⟨rfl, b2⟩
  have HW2 : Hid (Below X.heap.size X w2) := b2
  have bB2 : Below B.heap.size B w2 := HX.out.2.2.1.trans (b2.mono HX.out.2.2.1.size)
  have l3 := ld_R w2 W.heap.size _ rfl ((bB2.block _ HH.out.2.2.2.2.2.2).trans HH.out.2.2.2.2.2.1)
  have rm2 := (b2.block _ (Array.getElem?_eq_some_iff.1 HX.out.2.1).1).trans HX.out.2.1
  have C7 : Hid _ := turn_any w2 B.heap.size w1.heap.size bB2.size o n s a e R.sys R.bld _ _ _ _ _ _ us ls R HH.out.1 (fun p hp => (HZ.out.1 p hp).2) HZ.out.2.1 HZ.out.2.2 rm2 (HX.out.1.below b2)
  have HB2 : Hid (Below B.heap.size B w2) := bB2
  unfold rV at l3
  clear C6 l2 sX b2 bB2 rm2
  go_wp2_with fail
  refine Calls.mono C7.out ?_
  rintro en w3 ⟨o3, n3, s3, a3, e3, us3, rfl, tw3, b3, rm3, rl3⟩
  have bB3 : Below B.heap.size B w3 := HB2.out.trans b3
  have bW3 : Below W.heap.size W w3 := HH.out.2.2.2.2.1.trans (bB3.mono HH.out.2.2.2.2.1.size)
  have C8 := swapped_any w3 B.heap.size w1.heap.size _ _ _ _ _ _ us ls (turnR R) (sm_turn HH.out.1) rl3 rm3 o3 n3 s3 a3 e3 tw3.rc (.slice of nf cf) (.slice ot nt ct) fr to (HH.out.2.2.1.1.below bW3) (HH.out.2.2.1.2.below bW3) HH.out.2.2.2.1.2
  rw [(turn_sys R).1, (turn_sys R).2] at C8
  have HC8 : Hid _ := C8
  have HW3 : Hid (Below W.heap.size W w3) := bW3
  unfold rV at HC8
  unfold rV
  clear C7 l3 tw3 b3 rm3 rl3 bB3 bW3 C8
  go_wp2_with fail
  refine Calls.mono HC8.out ?_
  rintro en w4 ⟨rfl, b4⟩
  have HF : Hid (Below W.heap.size W w4) := HW3.out.trans (b4.mono HW3.out.size)
  clear HC8 b4
  go_wp2_with fail
  go_ret
  exact ⟨rfl, HF.out⟩
end
end Go.Proofs.Ytcggaiplepekdaa
