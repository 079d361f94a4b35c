/- Recipes: the law RecipePuts. -/
import Derived.Test.YtcggaiplepekdaaRcTd
namespace Go.Proofs.Ytcggaiplepekdaa
open Go.RowKit
theorem tE_o (R : Rcp) : (tE R).o = R.o := by unfold tE; split <;> rfl
theorem tA_o (R : Rcp) : (tA R).o = R.o := by unfold tA; split <;> rfl
theorem tS_o (R : Rcp) : (tS R).o = R.o := by unfold tS; split <;> rfl
theorem tN_o (R : Rcp) : (tN R).o = R.o := by unfold tN; split <;> rfl
theorem turn_o (R : Rcp) : (turnR R).o = (tO2 (tO1 R)).o := by unfold turnR; rw [tE_o, tA_o, tS_o, tN_o]
theorem turn_sys (R : Rcp) : (turnR R).sys = R.sys ∧ (turnR R).bld = R.bld := by
  have h1 : ∀ Q : Rcp, (tE Q).sys = Q.sys ∧ (tE Q).bld = Q.bld := fun Q => by unfold tE; split <;> exact ⟨rfl, rfl⟩
  have h2 : ∀ Q : Rcp, (tA Q).sys = Q.sys ∧ (tA Q).bld = Q.bld := fun Q => by unfold tA; split <;> exact ⟨rfl, rfl⟩
  have h3 : ∀ Q : Rcp, (tS Q).sys = Q.sys ∧ (tS Q).bld = Q.bld := fun Q => by unfold tS; split <;> exact ⟨rfl, rfl⟩
  have h4 : ∀ Q : Rcp, (tN Q).sys = Q.sys ∧ (tN Q).bld = Q.bld := fun Q => by unfold tN; split <;> exact ⟨rfl, rfl⟩
  have h5 : ∀ Q : Rcp, (tO2 Q).sys = Q.sys ∧ (tO2 Q).bld = Q.bld := fun Q => by unfold tO2; split <;> exact ⟨rfl, rfl⟩
  have h6 : ∀ Q : Rcp, (tO1 Q).sys = Q.sys ∧ (tO1 Q).bld = Q.bld := fun Q => by unfold tO1; split <;> exact ⟨rfl, rfl⟩
  unfold turnR
  exact ⟨by rw [(h1 _).1, (h2 _).1, (h3 _).1, (h4 _).1, (h5 _).1, (h6 _).1], by rw [(h1 _).2, (h2 _).2, (h3 _).2, (h4 _).2, (h5 _).2, (h6 _).2]⟩
theorem tO1_nm {R : Rcp} {M : Nat} (h : ∀ x ∈ R.o, x.1.size ≤ M) : ∀ x ∈ (tO1 R).o, x.1.size ≤ M := by
  unfold tO1
  split
  · rename_i x hx
    intro z hz
    rcases List.mem_or_eq_of_mem_set hz with q | q
    · exact h z q
    · rw [q]; exact h x (List.mem_of_getElem? hx)
  · exact h
theorem tO2_nm {R : Rcp} {M : Nat} (h : ∀ x ∈ R.o, x.1.size ≤ M) : ∀ x ∈ (tO2 R).o, x.1.size ≤ M + 1 := by
  unfold tO2
  split
  · rename_i x hx
    intro z hz
    rcases List.mem_or_eq_of_mem_set hz with q | q
    · exact Nat.le_succ_of_le (h z q)
    · rw [q]
      show (x.1 ++ ZED).size ≤ _
      rw [ByteArray.size_append]
      have := h x (List.mem_of_getElem? hx)
      show x.1.size + 1 ≤ _
      omega
  · exact fun z hz => Nat.le_succ_of_le (h z hz)
theorem turn_e {R : Rcp} {M : Nat} (h : ∀ p ∈ R.e, p.1.size ≤ M) : ∀ p ∈ (turnR R).e, p.1.size ≤ M := by
  have he : ∀ Q : Rcp, (∀ p ∈ Q.e, p.1.size ≤ M) → ∀ p ∈ (tE Q).e, p.1.size ≤ M := fun Q hQ => by
    unfold tE
    split
    · rename_i x hx
      intro z hz
      rcases List.mem_or_eq_of_mem_set hz with q | q
      · exact hQ z q
      · rw [q]; exact hQ x (List.mem_of_getElem? hx)
    · exact hQ
  unfold turnR
  refine he _ ?_
  rw [tA_e, (tS_a _).2, (tN_a _).2, (tO_a _).2]
  exact h
section
attribute [local go_sem ↓] toLdR toStM
set_option maxRecDepth 100000 in
set_option maxHeartbeats 3200000 in
theorem puts_any (W : World) (o n s a e : Value) (R : Rcp) (hs : Sm R) (hz : ∀ p ∈ R.e, p.1.size ≤ 1000000000 ∧ p.2.size ≤ 1000000000) (hza : ∀ x ∈ R.a, x.size ≤ 1000000000) (hzo : ∀ x ∈ R.o, x.1.size ≤ 1000000000 ∧ x.2.2.2.size ≤ 1000000000) (h : Rc W o n s a e R) (lv : Value) (lst : List S) (hl : Ls W lv 1 (lst.map sR)) (hlm : lst.length ≤ 10000000) :
    Calls Try.prog 3 #[.agg (rV o n s R.sys R.bld a e), lv] W fun en w' => en = .returned (.bool true) ∧ Below W.heap.size W w' := by
  obtain ⟨ol, cl, hlv⟩ := hl.form
  obtain ⟨ll, hll⟩ : ∃ k, lst.length = k := ⟨_, rfl⟩
  rw [List.length_map, hll] at hlv
  subst hlv
  obtain ⟨B, hB⟩ : ∃ B, W.alloc (.cells (rV o n s R.sys R.bld a e) 27) = B := ⟨_, rfl⟩
  have bB : Below W.heap.size W B := by rw [← hB]; exact below_al _ _
  have rB : B.heap[W.heap.size]? = some (.cells (rV o n s R.sys R.bld a e) 27 (0, 0)) := by rw [← hB]; exact heap_alloc_new _ _
  have hBz : W.heap.size < B.heap.size := by rw [← hB]; simp
  have C5 : Hid _ := room_any B o n s a e R hs (h.below bB)
  have l1 := ld_R B W.heap.size _ rfl rB
  have HH : Hid (Sm R ∧ Rc W o n s a e R ∧ Ls W (.slice ol ll cl) 1 (lst.map sR) ∧ lst.length ≤ 10000000 ∧ Below W.heap.size W B ∧ B.heap[W.heap.size]? = some (.cells (rV o n s R.sys R.bld a e) 27 (0, 0)) ∧ W.heap.size < B.heap.size) := ⟨hs, h, hl, hlm, bB, rB, hBz⟩
  have HZ : Hid ((∀ p ∈ R.e, p.1.size ≤ 1000000000 ∧ p.2.size ≤ 1000000000) ∧ (∀ x ∈ R.a, x.size ≤ 1000000000) ∧ (∀ x ∈ R.o, x.1.size ≤ 1000000000 ∧ x.2.2.2.size ≤ 1000000000)) := ⟨hz, hza, hzo⟩
  have HB : Hid (_ = B) := hB
  rw [← hB] at l1
  unfold rV at HB l1
  unfold rV
  clear h hs hz hza hzo hl hlm hll bB rB hBz hB
  go_enter Try.func3, Try.ntmps3
  go_wp2_with fail
  rw [HB.out]
  refine Calls.mono C5.out ?_
  rintro en w1 ⟨o', n', s', a', e', l', us, ls, rfl, rl, b1⟩
  obtain ⟨yo, mo, po, rfl⟩ : ∃ a n c, o' = Value.slice a n c := by
    obtain ⟨a, c, q, -⟩ := rl.fo.form
    exact ⟨a, _, c, q⟩
  obtain ⟨yn, mn, pn, rfl⟩ : ∃ a n c, n' = Value.slice a n c := by
    obtain ⟨a, c, q, -⟩ := rl.fn.form
    exact ⟨a, _, c, q⟩
  obtain ⟨ys, ms, ps, rfl⟩ : ∃ a n c, s' = Value.slice a n c := by
    obtain ⟨a, c, q, -⟩ := rl.fs.form
    exact ⟨a, _, c, q⟩
  obtain ⟨ya, ma, pa, rfl⟩ : ∃ a n c, a' = Value.slice a n c := by
    obtain ⟨a, c, q, -⟩ := rl.fa.form
    exact ⟨a, _, c, q⟩
  obtain ⟨ye, me, pe, rfl⟩ : ∃ a n c, e' = Value.slice a n c := by
    obtain ⟨a, c, q, -⟩ := rl.fe.form
    exact ⟨a, _, c, q⟩
  obtain ⟨yl, ml, pl, rfl⟩ : ∃ a n c, l' = Value.slice a n c := by
    obtain ⟨a, c, q, -⟩ := rl.fl.form
    exact ⟨a, _, c, q⟩
  obtain ⟨M, hM⟩ : ∃ M : Array Value, M = rmV (.slice yo mo po) (.slice yn mn pn) (.slice ys ms ps) (.slice ya ma pa) (.slice ye me pe) (.slice yl ml pl) := ⟨_, rfl⟩
  obtain ⟨X, hX⟩ : ∃ X, (w1.alloc (.cells zM 30)).setRow w1.heap.size M = X := ⟨_, rfl⟩
  have sX := st_M (w1.alloc (.cells zM 30)) w1.heap.size zM M rfl (by rw [hM]; rfl) (by rw [hM]; simp [rmV, Value.oneCell']) (heap_alloc_new _ _)
  have rX : X.heap[w1.heap.size]? = some (.cells M 30 (0, 0)) := by rw [← hX]; exact setRow_heap _ _ _ _ _ _ (heap_alloc_new _ _)
  have bX : Below w1.heap.size w1 X := by rw [← hX]; exact below_setRow (below_al _ _) (Nat.le_refl _) _
  rw [hX] at sX
  have bBX : Below B.heap.size B X := b1.trans (bX.mono b1.size)
  have bWX : Below W.heap.size W X := HH.out.2.2.2.2.1.trans (bBX.mono HH.out.2.2.2.2.1.size)
  have l2 := ld_R X W.heap.size _ rfl ((bBX.block _ HH.out.2.2.2.2.2.2).trans HH.out.2.2.2.2.2.1)
  have rlX := rl.below bX
  rw [hM] at rX
  have C6 : Hid _ := blanked_any X B.heap.size w1.heap.size _ _ _ _ _ _ us ls R HH.out.1 rlX rX o n s a e (HH.out.2.1.below bWX) (fun x hx => Nat.le_trans (HZ.out.2.2 x hx).1 (by unfold maxLen; omega)) (fun x hx => Nat.le_trans (HZ.out.1 x hx).1 (by unfold maxLen; omega)) (.slice ol ll cl) lst (HH.out.2.2.1.below bWX) HH.out.2.2.2.1
  have HX : Hid (Rl B.heap.size X _ _ _ _ _ _ us ls R ∧ X.heap[w1.heap.size]? = _ ∧ Below B.heap.size B X ∧ Below W.heap.size W X) := ⟨rlX, rX, bBX, bWX⟩
  rw [hM] at sX
  unfold rmV zM at sX
  unfold rV at l2
  unfold rmV
  clear C5 l1 rl b1 bX bBX bWX rlX rX hM hX
  go_wp2_with fail
  refine Calls.mono C6.out ?_
  rintro en w2 ⟨rfl, b2⟩
  have HW2 : Hid (Below X.heap.size X w2) := b2
  have bB2 : Below B.heap.size B w2 := HX.out.2.2.1.trans (b2.mono HX.out.2.2.1.size)
  have l3 := ld_R w2 W.heap.size _ rfl ((bB2.block _ HH.out.2.2.2.2.2.2).trans HH.out.2.2.2.2.2.1)
  have rm2 := (b2.block _ (Array.getElem?_eq_some_iff.1 HX.out.2.1).1).trans HX.out.2.1
  have C7 : Hid _ := turn_any w2 B.heap.size w1.heap.size bB2.size o n s a e R.sys R.bld _ _ _ _ _ _ us ls R HH.out.1 (fun p hp => (HZ.out.1 p hp).2) HZ.out.2.1 HZ.out.2.2 rm2 (HX.out.1.below b2)
  have HB2 : Hid (Below B.heap.size B w2) := bB2
  unfold rV at l3
  clear C6 l2 sX b2 bB2 rm2
  go_wp2_with fail
  refine Calls.mono C7.out ?_
  rintro en w3 ⟨o3, n3, s3, a3, e3, us3, rfl, tw3, b3, rm3, rl3⟩
  have bB3 : Below B.heap.size B w3 := HB2.out.trans b3
  have bW3 : Below W.heap.size W w3 := HH.out.2.2.2.2.1.trans (bB3.mono HH.out.2.2.2.2.1.size)
  have C8 := blanked_any w3 B.heap.size w1.heap.size _ _ _ _ _ _ us ls (turnR R) (sm_turn HH.out.1) rl3 rm3 o3 n3 s3 a3 e3 tw3.rc (by
    rw [turn_o]
    intro x hx
    have := tO2_nm (tO1_nm (fun x hx => (HZ.out.2.2 x hx).1)) x hx
    exact Nat.le_trans this (by unfold maxLen; omega)) (fun p hp => Nat.le_trans (turn_e (fun p hp => (HZ.out.1 p hp).1) p hp) (by unfold maxLen; omega)) (.slice ol ll cl) lst (HH.out.2.2.1.below bW3) HH.out.2.2.2.1
  rw [(turn_sys R).1, (turn_sys R).2] at C8
  have HC8 : Hid _ := C8
  have HW3 : Hid (Below W.heap.size W w3) := bW3
  unfold rV at HC8
  unfold rV
  clear C7 l3 tw3 b3 rm3 rl3 bB3 bW3 C8
  go_wp2_with fail
  refine Calls.mono HC8.out ?_
  rintro en w4 ⟨rfl, b4⟩
  have HF : Hid (Below W.heap.size W w4) := HW3.out.trans (b4.mono HW3.out.size)
  clear HC8 b4
  go_wp2_with fail
  go_ret
  exact ⟨rfl, HF.out⟩
end
end Go.Proofs.Ytcggaiplepekdaa
