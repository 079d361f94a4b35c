/- Graphs: Way of any graph and any two numbers, the code's and the document's. -/
import Derived.Test.YtgedmfcfhdfoeaaJgF
import Derived.Test.YtgedmfcfhdfoeaaGuD
namespace Go.Proofs.Ytgedmfcfhdfoeaa
open Go.RowKit GM
set_option maxRecDepth 20000
/-- What Way answers: the path and the error. -/
def WyV (N : Int) (E : List (Int × Int)) (a b : Int) (L : List Nat) (e0 : Nat) : Prop :=
  ((chk N E).1 ≠ 0 ∧ L = [] ∧ e0 = (chk N E).1) ∨ ((chk N E).1 = 0 ∧ okL N.toNat [a, b] = false ∧ L = [] ∧ e0 = 82) ∨
    ∃ (n : Nat) (F : List (Nat × Nat)) (x y : Nat), N = (n : Int) ∧ E = zE F ∧ a = (x : Int) ∧ b = (y : Int) ∧ (chk N E).1 = 0 ∧ x < n ∧ y < n ∧ ((L = [] ∧ e0 = 7 ∧ ∀ d, ¬ Bl (ndF n F) x d y) ∨ (e0 = 0 ∧ ∃ d, Lp (ndF n F) x d y L))
def WyP (N : Int) (E : List (Int × Int)) (a b : Int) (w : World) (e : Ending) (w' : World) : Prop := Below w.heap.size w w' ∧ ∃ (L : List Nat) (e0 : Nat) (o : Option Addr) (c : Nat), e = .returned (.tuple #[.slice o L.length c, .int .i64 (e0 : Int)]) ∧ WyV N E a b L e0 ∧ w'.ownsRow w.heap.size 3 1 (.slice o L.length c) L.length (ik L).toList
theorem wy_nil {N : Int} {E : List (Int × Int)} {a b : Int} {w w' : World} {e0 : Nat} (hb : Below w.heap.size w w') (h : WyV N E a b [] e0) : WyP N E a b w (.returned (.tuple #[.slice none 0 0, .int .i64 (e0 : Int)])) w' :=
  ⟨hb, [], e0, none, 0, rfl, h, World.ownsRow_nil _ _ _ _⟩
theorem wy_one {N : Int} {E : List (Int × Int)} {a b : Int} {w w' : World} {F : Nat → List Nat} {x y d c : Nat} {o : Option Addr} {L : List Nat} {e : Ending} (hb : Below w.heap.size w w') (he : e = .returned (.tuple #[.slice o (d + 1) c, .int .i64 0])) (hp : Lp F x d y L) (ow : w'.ownsRow w.heap.size 3 1 (.slice o (d + 1) c) (d + 1) (ik L).toList) (h : WyV N E a b L 0) : WyP N E a b w e w' := by
  have hl := hp.1.ln
  refine ⟨hb, L, 0, o, c, ?_, h, ?_⟩
  · rw [he, hl]; rfl
  · rw [hl]; exact ow
theorem nE_inj {F F' : List (Nat × Nat)} (h : zE F = zE F') : F = F' := by rw [← nE_zE F, h, nE_zE]
theorem wyv_uniq {N : Int} {E : List (Int × Int)} {a b : Int} {L L' : List Nat} {e e' : Nat} (h : WyV N E a b L e) (k : WyV N E a b L' e') : L = L' ∧ e = e' := by
  have okt {n x y : Nat} (hx : x < n) (hy : y < n) : okL ((n : Int)).toNat [(x : Int), (y : Int)] = true := by simp [okL, hx, hy]
  rcases h with ⟨h1, h2, h3⟩ | ⟨h1, h2, h3, h4⟩ | ⟨n, F, x, y, h1, h2, h3, h4, h5, h6, h7, h8⟩
  · rcases k with ⟨k1, k2, k3⟩ | ⟨k1, -⟩ | ⟨_, _, _, _, _, _, _, _, k5, _⟩
    · exact ⟨by rw [h2, k2], by rw [h3, k3]⟩
    · exact absurd k1 h1
    · exact absurd k5 h1
  · rcases k with ⟨k1, -⟩ | ⟨k1, k2, k3, k4⟩ | ⟨n, F, x, y, rfl, rfl, rfl, rfl, k5, k6, k7, _⟩
    · exact absurd h1 k1
    · exact ⟨by rw [h3, k3], by rw [h4, k4]⟩
    · rw [okt k6 k7] at h2; cases h2
  · subst h1 h2 h3 h4
    rcases k with ⟨k1, -⟩ | ⟨k1, k2, k3, k4⟩ | ⟨n', F', x', y', k1, k2, k3, k4, k5, k6, k7, k8⟩
    · exact absurd h5 k1
    · rw [okt h6 h7] at k2; cases k2
    · have e1 : n = n' := by omega
      have e2 : x = x' := by omega
      have e3 : y = y' := by omega
      have e4 := nE_inj k2
      subst e1 e2 e3 e4
      rcases h8 with ⟨q1, q2, q3⟩ | ⟨q1, d, q2⟩
      · rcases k8 with ⟨r1, r2, r3⟩ | ⟨r1, d', r2⟩
        · exact ⟨by rw [q1, r1], by rw [q2, r2]⟩
        · exact absurd r2.1.ds.1 (q3 d')
      · rcases k8 with ⟨r1, r2, r3⟩ | ⟨r1, d', r2⟩
        · exact absurd q2.1.ds.1 (r3 d)
        · have ed := q2.1.ds.uniq r2.1.ds
          subst ed
          exact ⟨lp_uniq q2 r2, by rw [q1, r1]⟩
theorem nrmU_fit {N : Nat} {E : List (Nat × Nat)} : ∀ e ∈ nrm N E, e.1 < N ∧ e.2 < N := fun e h => by
  obtain ⟨a, b⟩ := e
  have := nrmU_mem.1 h
  exact ⟨this.1, this.2.1⟩
theorem nrmU_len (N : Nat) (E : List (Nat × Nat)) : (nrm N E).length ≤ E.length :=
  List.Nodup.length_le_of_subset ((nrmU_rise N E).imp fun h e => by subst e; omega) fun e h => by
    obtain ⟨a, b⟩ := e
    exact (nrmU_mem.1 h).2.2
theorem ndU_turn {N : Nat} {E : List (Nat × Nat)} (hE : ∀ e ∈ E, e.1 < N ∧ e.2 < N) (x y : Nat) : y ∈ ndF N E x ↔ x ∈ ndF N (nrm N (trn E)) y := by
  rw [ndU_mem, ndU_mem, nrmU_mem, mem_trn]
  constructor
  · rintro ⟨h1, h2⟩
    exact ⟨(hE _ h2).1, h1, (hE _ h2).1, h2⟩
  · rintro ⟨h1, h2, -, h3⟩
    exact ⟨h2, h3⟩
theorem dsU_bound {N a b d : Nat} {F : List (Nat × Nat)} (ha : a < N) (hd : Ds (ndF N F) a d b) : d < N := by
  obtain ⟨K, k1, k2, -⟩ := lyr_end (nd := ndF N F) (S := [a]) (N := N) (fun x hx => by rw [List.mem_singleton.1 hx]; exact ha) (fun v _ x hx => ndF_lt v x hx)
  have q := ds_lt k2 d b hd
  omega
set_option maxRecDepth 100000 in
set_option maxHeartbeats 1600000 in
theorem wayE_any (N : Int) (E : List (Int × Int)) (a b : Int) (v : Value) (w : World) (hv : El v E w) {e0 : Nat} (hk : CkE N E [a, b] e0) :
    Calls Try.prog 20 #[grV N v, .int .i64 a, .int .i64 b] w fun e w' => e = .returned (.tuple #[.slice none 0 0, .int .i64 (e0 : Int)]) ∧ Below w.heap.size w w' := by
  obtain ⟨W0, hW0⟩ : ∃ W0, w.alloc (.cells #[.int .i64 N, v] 24) = W0 := ⟨_, rfl⟩
  have b0 : Below w.heap.size w W0 := by rw [← hW0]; exact (Below.refl _ w).alloc (Nat.le_refl _) _
  have r0 : W0.heap[w.heap.size]? = some (.cells #[.int .i64 N, v] 24 (0, 0)) := by rw [← hW0]; exact heap_alloc_new _ _
  obtain ⟨W1, hW1⟩ : ∃ W1, W0.alloc (.cells #[.int .i64 a, .int .i64 b] 3) = W1 := ⟨_, rfl⟩
  have b1 : Below W0.heap.size W0 W1 := by rw [← hW1]; exact (Below.refl _ W0).alloc (Nat.le_refl _) _
  have b01 := b0.trans (b1.mono b0.size)
  have s0 : W0.heap.size = w.heap.size + 1 := by rw [← hW0]; simp
  have CC := hk.2 v (.slice (some ⟨W0.heap.size, 0, none⟩) 2 2) W0.heap.size W1 (hv.below b01) (by rw [← hW1]; exact ia_two W0 a b) (by show 2 < 1000000000; omega)
  obtain ⟨kg, hkg⟩ : ∃ k, w.heap.size = k := ⟨_, rfl⟩
  obtain ⟨kb, hkb⟩ : ∃ k, W0.heap.size = k := ⟨_, rfl⟩
  have c0 : W1.cell? ⟨kg, 0, none⟩ = some (.int .i64 N) := by rw [← hkg]; exact cell_belowX b1 ((cell_of_row _ _ _ _ _ _ r0).trans rfl)
  have c1 : W1.cell? ⟨kg, 1, none⟩ = some v := by rw [← hkg]; exact cell_belowX b1 ((cell_of_row _ _ _ _ _ _ r0).trans rfl)
  have hWW : Hid ((w.alloc (.cells #[.int .i64 N, v] 24)).alloc (.cells #[.int .i64 a, .int .i64 b] 3) = W1) := by rw [hW0]; exact hW1
  have hk1 : kg + 1 = kb := by omega
  have c0r := c0
  have c1r := c1
  rw [← hWW.out] at c0r c1r
  rw [hkb] at CC
  have n0 : ((e0 : Int) == 0) = false := by have := hk.1; simpa using this
  have n1 : ¬ ((e0 : Int) = 0) := by have := hk.1; omega
  have HB := mkHid b01
  unfold grV at CC ⊢
  clear hW0 b0 s0 r0 hW1 b1 b01 hv hkb hk
  go_enter Try.func20, Try.ntmps20
  go_wp2_with fail
  try rw [hkg]
  try rw [hk1]
  try rw [hWW.out]
  refine Calls.mono CC ?_
  rintro e W2 ⟨rfl, b12⟩
  have HB2 := mkHid (HB.out.trans (b12.mono HB.out.size))
  clear CC c0 c1 c0r c1r b12
  go_wp2_with fail
  go_ret2
  exact ⟨rfl, hkg ▸ HB2.out⟩
theorem wayC_all (N : Int) (E : List (Int × Int)) (a b : Int) (v : Value) (w : World) (hv : El v E w) :
    Calls Try.prog 20 #[grV N v, .int .i64 a, .int .i64 b] w (WyP N E a b w) := by
  by_cases h : (chk N E).1 = 0
  · obtain ⟨n, F, rfl, hn, rfl, hF, hl⟩ := chk_ok h
    cases h2 : okL n [a, b] with
    | false =>
      refine (wayE_any (n : Int) (zE F) a b v w hv (cke_no h h2)).mono ?_
      rintro e w' ⟨rfl, hb⟩
      exact wy_nil hb (.inr (.inl ⟨h, by rw [Int.toNat_natCast]; exact h2, rfl, rfl⟩))
    | true =>
      obtain ⟨x, y, rfl, rfl, hx, hy⟩ := ok_two h2
      refine (way_any n hn F hF hl v w hv h x y hx hy).mono ?_
      rintro e w' ⟨hb, ⟨rfl, q⟩ | ⟨d, L, o, c, p, rfl, ow⟩⟩
      · exact wy_nil hb (.inr (.inr ⟨n, F, x, y, rfl, rfl, rfl, rfl, h, hx, hy, .inl ⟨rfl, rfl, q⟩⟩))
      · have lp : Lp (ndF n F) x d y L := ⟨⟨p.ds, p.ln, p.hd, p.tl, p.ch⟩, p.ls⟩
        exact wy_one hb rfl lp ow (.inr (.inr ⟨n, F, x, y, rfl, rfl, rfl, rfl, h, hx, hy, .inr ⟨rfl, d, lp⟩⟩))
  · refine (wayE_any N E a b v w hv (cke_bad h)).mono ?_
    rintro e w' ⟨rfl, hb⟩
    exact wy_nil hb (.inl ⟨h, rfl, rfl⟩)
set_option maxRecDepth 100000 in
set_option maxHeartbeats 3200000 in
theorem wayR_all (N : Int) (E : List (Int × Int)) (a b : Int) (v : Value) (w : World) (hv : El v E w) :
    Calls Try.prog 21 #[grV N v, .int .i64 a, .int .i64 b] w (WyP N E a b w) := by
  obtain ⟨kG, hkG⟩ : ∃ k, w.heap.size = k := ⟨_, rfl⟩
  obtain ⟨W0, hW0⟩ : ∃ W0, w.alloc (.cells #[.int .i64 N, v] 24) = W0 := ⟨_, rfl⟩
  have b0 : Below w.heap.size w W0 := by rw [← hW0]; exact (Below.refl _ w).alloc (Nat.le_refl _) _
  have r0 : W0.heap[kG]? = some (.cells #[.int .i64 N, v] 24 (0, 0)) := by rw [← hW0, ← hkG]; exact heap_alloc_new _ _
  have C1 := checkR_any N E v W0 (hv.below b0)
  have l0 : W0.cell? ⟨kG, 0, none⟩ = some (.int .i64 N) := (cell_of_row _ _ _ _ _ _ r0).trans rfl
  have l1 : W0.cell? ⟨kG, 1, none⟩ = some v := (cell_of_row _ _ _ _ _ _ r0).trans rfl
  obtain ⟨oo, cc, hvv, -, -⟩ := hv.form
  have HV := mkHid (And.intro hv b0)
  obtain ⟨e0, he0⟩ : ∃ e, (chk N E).1 = e := ⟨_, rfl⟩
  obtain ⟨e1, he1⟩ : ∃ e, (chk N E).2 = e := ⟨_, rfl⟩
  rw [he0, he1] at C1
  have HE := mkHid he0
  unfold grV at C1 ⊢
  clear hv b0 r0 he0 he1 hvv
  go_enter Try.func21, Try.ntmps21
  go_wp2_with fail
  try rw [hkG]
  try rw [hW0]
  refine C1.mono ?_
  rintro e W1 ⟨rfl, b1⟩
  have l2 := cell_belowX b1 l0
  have l3 := cell_belowX b1 l1
  have HB1 := mkHid (HV.out.2.trans (b1.mono HV.out.2.size))
  clear C1 b1 l0 l1 hW0
  by_cases h0 : e0 = 0
  · subst h0
    obtain ⟨n, F, rfl, hn, rfl, hF, hl⟩ := chk_ok HE.out
    obtain ⟨kB, hkB⟩ : ∃ k, W1.heap.size = k := ⟨_, rfl⟩
    obtain ⟨W2, hW2⟩ : ∃ W2, W1.alloc (.cells #[.int .i64 a, .int .i64 b] 3) = W2 := ⟨_, rfl⟩
    have b2 : Below W1.heap.size W1 W2 := by rw [← hW2]; exact (Below.refl _ W1).alloc (Nat.le_refl _) _
    have C2 := vertices_any (v := v) W2 (N := n) (g := kB) (rv := .slice (some ⟨kB, 0, none⟩) 2 2) (l := [a, b]) hn (by rw [← hkB, ← hW2]; exact ia_two W1 a b) (by show 2 < 1000000000; omega)
    have l4 := cell_belowX b2 l2
    have l5 := cell_belowX b2 l3
    obtain ⟨ok, hok⟩ : ∃ o, okL n [a, b] = o := ⟨_, rfl⟩
    have HK := mkHid (And.intro hok (And.intro hn (And.intro hF (And.intro hl b2))))
    unfold grV at C2
    clear hn hF hl b2 hok
    dsimp only
    go_upto_region 4 with fail
    go_wp2_with fail
    try rw [hkB]
    try rw [hW2]
    refine C2.mono ?_
    rintro e W3 ⟨rfl, b3⟩
    have l6 := cell_belowX b3 l4
    have l7 := cell_belowX b3 l5
    rw [HK.out.1]
    have b13 : Below w.heap.size w W3 := HB1.out.trans ((HK.out.2.2.2.2.trans (b3.mono HK.out.2.2.2.2.size)).mono HB1.out.size)
    have HB3 := mkHid b13
    clear C2 b3 b13 l4 l5 l2 l3 hW2
    cases ok
    · go_wp2_with fail
      go_ret2
      exact wy_nil HB3.out (.inr (.inl ⟨HE.out, by rw [Int.toNat_natCast]; exact HK.out.1, rfl, rfl⟩))
    · obtain ⟨x, y, rfl, rfl, hx, hy⟩ := ok_two HK.out.1
      have CT := turnedR_any n HK.out.2.1 F HK.out.2.2.1 (by have := HK.out.2.2.2.1; omega) v W3 (HV.out.1.below HB3.out)
      have HXY := mkHid (And.intro hx hy)
      unfold grV at CT
      clear hx hy
      go_wp2_with fail
      refine CT.mono ?_
      rintro e Wt ⟨ut, rfl, elt, bt, -⟩
      have C4 := needsR_any n HK.out.2.1 (nrm n (trn F)) nrmU_fit (Nat.le_trans (nrmU_len n (trn F)) (by rw [trnU_len]; exact HK.out.2.2.2.1)) ut Wt elt
      have HBt := mkHid (HB3.out.trans (bt.mono HB3.out.size))
      have lt6 := cell_belowX bt l6
      have lt7 := cell_belowX bt l7
      obtain ⟨ot, ct, hut, -, -⟩ := elt.form
      rw [zE_len] at hut
      subst hut
      obtain ⟨mt, hmt⟩ : ∃ k, (nrm n (trn F)).length = k := ⟨_, rfl⟩
      unfold grV at C4
      rw [hmt] at C4 ⊢
      clear CT elt bt l6 l7 hmt
      go_wp2_with fail
      refine C4.mono ?_
      rintro e W4 ⟨g4, V4, rfl, R4, b4, -⟩
      have lu6 := cell_belowX b4 lt6
      have lu7 := cell_belowX b4 lt7
      obtain ⟨kC, hkC⟩ : ∃ k, W4.heap.size = k := ⟨_, rfl⟩
      obtain ⟨W5, hW5⟩ : ∃ W5, W4.alloc (.cells #[.int .i64 (y : Int)] 3) = W5 := ⟨_, rfl⟩
      have b5 : Below W4.heap.size W4 W5 := by rw [← hW5]; exact (Below.refl _ W4).alloc (Nat.le_refl _) _
      have C5 := far_any W5 (g := g4) (N := n) (g0 := kC) (V := V4) (F := ndF n (nrm n (trn F))) (rv := .slice (some ⟨kC, 0, none⟩) 1 1) (S := [y]) HK.out.2.1 (R4.below b5) (fun v _ x hx => ndF_lt v x hx) ndF_len (by rw [← hkC, ← hW5]; exact il_one W4 y) (fun z hz => by rw [List.mem_singleton.1 hz]; exact HXY.out.2) (by show 1 < 1000000000; omega)
      have HB5 := mkHid (HBt.out.trans ((b4.trans (b5.mono b4.size)).mono HBt.out.size))
      have l6 := cell_belowX b5 lu6
      have l7 := cell_belowX b5 lu7
      clear C4 R4 b4 b5 lu6 lu7 lt6 lt7
      go_wp2_with fail
      try rw [hkC]
      try rw [hW5]
      refine C5.mono ?_
      rintro e W6 ⟨gD, f, dl, rfl, b6, q1, q2, q3, q4, -⟩
      have cd : W6.cell? ⟨gD, x, none⟩ = some (.int .i64 (dV (f x))) := by
        rw [← q3 x HXY.out.1]
        exact (cell_of_row _ _ _ _ _ _ q1).trans (izU_get _ _ (by rw [q2]; exact HXY.out.1))
      have x0 := geI x
      have x1 := ltI HXY.out.1
      have b06 := HB5.out.trans (b6.mono HB5.out.size)
      have hfd : ∀ v k, f v = some k ↔ Ds (ndF n F) v k y := fun v k => (q4 v k).trans (dsS_one.trans (ds_turn (ndU_turn HK.out.2.2.1)).symm)
      have C7 := needsR_any n HK.out.2.1 F HK.out.2.2.1 HK.out.2.2.2.1 v W6 (HV.out.1.below b06)
      have HD := mkHid (And.intro hfd (And.intro q1 (And.intro q2 (And.intro q3 b06))))
      have l8 := cell_belowX b6 l6
      have l9 := cell_belowX b6 l7
      unfold grV at C7
      clear C5 b6 q1 q2 q3 q4 hW5 hfd b06 l6 l7
      cases hf : f x with
      | none =>
        rw [hf] at cd
        have cd' : W6.cell? ⟨gD, x, none⟩ = some (.int .i64 (-1)) := cd
        have HR : Hid (∀ d, ¬ Bl (ndF n F) x d y) := fun d hd => by
          obtain ⟨k, -, hk⟩ := hd.ds
          have := (HD.out.1 x k).2 hk
          rw [hf] at this
          cases this
        clear cd hf C7
        go_wp2_with fail
        go_ret2
        exact wy_nil HD.out.2.2.2.2 (.inr (.inr ⟨n, F, x, y, rfl, rfl, rfl, rfl, HE.out, HXY.out.1, HXY.out.2, .inl ⟨rfl, rfl, HR.out⟩⟩))
      | some k =>
        rw [hf] at cd
        have cd' : W6.cell? ⟨gD, x, none⟩ = some (.int .i64 (k : Int)) := cd
        have nk : ¬ ((k : Int) < 0) := by omega
        have HF := mkHid hf
        clear cd hf
        go_wp2_with fail
        refine C7.mono ?_
        rintro e W7 ⟨g7, V7, rfl, R7, b7, -⟩
        have hk := (HD.out.1 x k).1 HF.out
        have r7 := (b7.block _ (Array.getElem?_eq_some_iff.1 HD.out.2.1).1).trans HD.out.2.1
        have hkn := dsU_bound (F := F) HXY.out.1 hk
        have C8 := least_doc W7 (g := g7) (gB := gD) (N := n) (a := x) (b := y) (d := k) (V := V7) (F := ndF n F) (f := f) (dl := dl) HK.out.2.1 R7 (fun v _ x hx => ndF_lt v x hx) ndF_len (ndU_rise n F) r7 HD.out.2.2.1 HD.out.2.2.2.1 HD.out.1 HXY.out.1 hk (Nat.le_of_lt hkn)
        have HB7 := mkHid (HD.out.2.2.2.2.trans (b7.mono HD.out.2.2.2.2.size))
        clear C7 R7 b7 hk r7 hkn cd' nk
        go_wp2_with fail
        refine C8.mono ?_
        rintro e W8 ⟨L, o, c, rfl, lp, ow, b8⟩
        have HR := mkHid (And.intro lp (And.intro (own_base ow HB7.out.size) (HB7.out.trans (b8.mono HB7.out.size))))
        clear C8 lp ow b8
        go_wp2_with fail
        go_ret2
        exact wy_one HR.out.2.2 rfl HR.out.1 HR.out.2.1 (.inr (.inr ⟨n, F, x, y, rfl, rfl, rfl, rfl, HE.out, HXY.out.1, HXY.out.2, .inr ⟨rfl, k, HR.out.1⟩⟩))
  · have n0 : ((e0 : Int) == 0) = false := by simpa using h0
    have n1 : ¬ ((e0 : Int) = 0) := by omega
    have HR : Hid (WyV N E a b [] e0) := .inl ⟨by rw [HE.out]; exact h0, rfl, HE.out.symm⟩
    clear h0
    dsimp only
    go_wp2_with fail
    go_ret2
    exact wy_nil HB1.out HR.out
end Go.Proofs.Ytgedmfcfhdfoeaa
