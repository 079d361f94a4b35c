/- Several texts in one: LqR, Lq5, Lq6. -/
import Derived.Test.YtlkbhgjmppcfoaaDoorLrB
import Derived.Test.YtlkbhgjmppcfoaaDoorLrC
import Derived.Test.YtlkbhgjmppcfoaaDoorLcX
/- The operations of the drawn region of the document's Call, each by its value. -/
namespace Go.Proofs.YtlkbhgjmppcfoaaDoor
open Go.RowKit
noncomputable def rgc5 : Array Oper := ((Tryd.f18.body.bind (findR 5)).getD #[])
theorem okRc5 : okR rgc5 24 = true := by kernel_rfl
def Vc5 (g : Nat) (n : ByteArray) (Z F : List Nat) : Nat → Value
  | 0 => .agg (bs Z)
  | 1 => .agg (bs F)
  | 2 => .pointer (some ⟨g, 37, none⟩)
  | 3 => .string n
  | 4 => .agg (lab F n)
  | 6 => .int .i64 0
  | _ => undef
set_option maxRecDepth 100000 in
set_option maxHeartbeats 1000000 in
theorem stepc5 (a0 : Act) (s r : Nat) (g : Nat) (n : ByteArray) (Z F : List Nat) (S : Array Bool → World → Prop) (Q : Exit → Act → World → Prop) (h6 : a0.tmps[6]? = some (.pointer (some ⟨s, 0, none⟩))) (h1 : a0.tmps[1]? = some (.pointer (some ⟨g, 0, none⟩))) (h2 : a0.tmps[2]? = some (.pointer (some ⟨r, 0, none⟩)))
    (hmv : ∀ i : Nat, decide (i ≠ 1 ∧ i ≠ 5) = true → ∀ listed W, S listed W → S (listed.setIfInBounds i true) W) (hc : ∀ listed W, S listed W → listed.size = rgc5.size → listed.getD 1 true = false → (∀ j, ((rgc5[1]?).map fun o => o.after.any fun e => Region.binds .any e && e.on == j) = some true → listed.getD j false = true) → Calls Tryd.prog 32 #[.agg (bs Z)] W fun e w' => e = .returned (.agg (bs F)) ∧ S (listed.setIfInBounds 1 true) w') (hl0 : ∀ listed W, S listed W → listed.size = rgc5.size → listed.getD 0 true = false → (∀ j, ((rgc5[0]?).map fun o => o.after.any fun e => Region.binds .any e && e.on == j) = some true → listed.getD j false = true) → ∃ W2, (Instr.loadAt 24 (.pointer (some ⟨s, 0, none⟩))).run Tryd.prog W = .ok (.agg (bs Z)) W2 ∧ S (listed.setIfInBounds 0 true) W2) (hl3 : ∀ listed W, S listed W → listed.size = rgc5.size → listed.getD 3 true = false → (∀ j, ((rgc5[3]?).map fun o => o.after.any fun e => Region.binds .any e && e.on == j) = some true → listed.getD j false = true) → ∃ W2, (Instr.loadAt 9 (.pointer (some ⟨g, 37, none⟩))).run Tryd.prog W = .ok (.string n) W2 ∧ S (listed.setIfInBounds 3 true) W2) (hbu : ∀ listed W, S listed W → listed.size = rgc5.size → listed.getD 4 true = false → (∀ j, ((rgc5[4]?).map fun o => o.after.any fun e => Region.binds .any e && e.on == j) = some true → listed.getD j false = true) → ∃ W2, (Instr.build 34 #[(0, .agg (bs F)), (1, .string n)]).run Tryd.prog W = .ok (.agg (lab F n)) W2 ∧ S (listed.setIfInBounds 4 true) W2) (hst : ∀ listed W, S listed W → listed.size = rgc5.size → listed.getD 5 true = false → (∀ j, ((rgc5[5]?).map fun o => o.after.any fun e => Region.binds .any e && e.on == j) = some true → listed.getD j false = true) → ∃ W2, (Instr.storeAt 34 (.pointer (some ⟨r, 0, none⟩)) (.agg (lab F n))).run Tryd.prog W = .ok (()) W2 ∧ S (listed.setIfInBounds 5 true) W2)
    (i : Nat) (o : Oper) (a : Act) (w : World) (listed : Array Bool) (ho : rgc5[i]? = some o) (hF : RFr rgc5 a0 (Vc5 g n Z F) listed a) (hS : S listed w) (hls : listed.size = rgc5.size) (hun : listed.getD i true = false) (hdep : ∀ e ∈ o.after, Region.binds .any e = true → listed.getD e.on false = true) :
      if Region.wanted o (yielded rgc5 a.tmps) = true then Oper.wp Tryd.prog o a w (fun a' w' => a' = a.put o.dst (Vc5 g n Z F i) ∧ S (listed.setIfInBounds i true) w') Q else Vc5 g n Z F i = undef ∧ S (listed.setIfInBounds i true) w := by
  match i, ho with
  | 0, ho =>
    rw [if_pos (want_none (fact ho (by kernel_rfl)))]
    have hop : o.op = .load 24 (.tmp 6) := fact ho (by kernel_rfl)
    have hds : o.dst = some 19 := fact ho (by kernel_rfl)
    have t6 := tm_old hF 6 _ h6 (by kernel_rfl)
    obtain ⟨W2, hr, hS2⟩ := hl0 listed w hS hls hun (fun j hj => dep_of ho hdep j hj)
    unfold Oper.wp
    simp [execOp, hop, hds, Act.eval, t6, hr, Oper.upon, Act.put, Vc5, hS2]
  | 1, ho =>
    rw [if_pos (want_none (fact ho (by kernel_rfl)))]
    have hop : o.op = .call { callee := .value (.func 32), args := #[.tmp 19], argTypes := #[24] } := fact ho (by kernel_rfl)
    have hds : o.dst = some 20 := fact ho (by kernel_rfl)
    have t19 := tm_dep hF 0 19 (by kernel_rfl) (dep_of ho hdep 0 (by kernel_rfl))
    simp only [Vc5] at t19
    unfold Oper.wp
    simp [execOp, hop, hds, t19, go_sem, Vc5]
    refine (hc listed w hS hls hun (fun j hj => dep_of ho hdep j hj)).mono ?_
    rintro e w' ⟨rfl, hS'⟩
    exact ⟨rfl, hS'⟩
  | 2, ho =>
    rw [if_pos (want_none (fact ho (by kernel_rfl)))]
    have hop : o.op = .fieldAddr 26 (.tmp 1) 6 := fact ho (by kernel_rfl)
    have hds : o.dst = some 21 := fact ho (by kernel_rfl)
    have t1 := tm_old hF 1 _ h1 (by kernel_rfl)
    have hS2 := hmv 2 (by decide) listed w hS
    unfold Oper.wp
    simp [execOp, hop, hds, t1, go_sem, Vc5, hS2]
  | 3, ho =>
    rw [if_pos (want_none (fact ho (by kernel_rfl)))]
    have hop : o.op = .load 9 (.tmp 21) := fact ho (by kernel_rfl)
    have hds : o.dst = some 22 := fact ho (by kernel_rfl)
    have t21 := tm_dep hF 2 21 (by kernel_rfl) (dep_of ho hdep 2 (by kernel_rfl))
    simp only [Vc5] at t21
    obtain ⟨W2, hr, hS2⟩ := hl3 listed w hS hls hun (fun j hj => dep_of ho hdep j hj)
    unfold Oper.wp
    simp [execOp, hop, hds, Act.eval, t21, hr, Oper.upon, Act.put, Vc5, hS2]
  | 4, ho =>
    rw [if_pos (want_none (fact ho (by kernel_rfl)))]
    have hop : o.op = .build 34 #[(0, .tmp 20), (1, .tmp 22)] := fact ho (by kernel_rfl)
    have hds : o.dst = some 23 := fact ho (by kernel_rfl)
    have t20 := tm_dep hF 1 20 (by kernel_rfl) (dep_of ho hdep 1 (by kernel_rfl))
    simp only [Vc5] at t20
    have t22 := tm_dep hF 3 22 (by kernel_rfl) (dep_of ho hdep 3 (by kernel_rfl))
    simp only [Vc5] at t22
    obtain ⟨W2, hr, hS2⟩ := hbu listed w hS hls hun (fun j hj => dep_of ho hdep j hj)
    unfold Oper.wp
    simp [execOp, hop, hds, Act.eval, t20, t22, hr, Oper.upon, Act.put, Vc5, hS2]
  | 5, ho =>
    rw [if_pos (want_none (fact ho (by kernel_rfl)))]
    have hop : o.op = .store 34 (.tmp 2) (.tmp 23) := fact ho (by kernel_rfl)
    have hds : o.dst = none := fact ho (by kernel_rfl)
    have t2 := tm_old hF 2 _ h2 (by kernel_rfl)
    have t23 := tm_dep hF 4 23 (by kernel_rfl) (dep_of ho hdep 4 (by kernel_rfl))
    simp only [Vc5] at t23
    obtain ⟨W2, hr, hS2⟩ := hst listed w hS hls hun (fun j hj => dep_of ho hdep j hj)
    unfold Oper.wp
    simp [execOp, hop, hds, Act.eval, t2, t23, hr, Oper.upon, Act.put, hS2]
  | 6, ho =>
    rw [if_pos (want_none (fact ho (by kernel_rfl)))]
    have hop : o.op = .assign (.const (.int .i64 0)) := fact ho (by kernel_rfl)
    have hds : o.dst = some 3 := fact ho (by kernel_rfl)
    have hS2 := hmv 6 (by decide) listed w hS
    unfold Oper.wp
    simp [execOp, hop, hds, go_sem, Vc5, hS2]
  | n + 7, ho =>
    exfalso
    have h1 : n + 7 < rgc5.size := (Array.getElem?_eq_some_iff.1 ho).1
    rw [show rgc5.size = 7 from by kernel_rfl] at h1
    omega
set_option maxRecDepth 100000 in
theorem putc5 (X : Nat → Value) (v0 v1 v2 v3 v4 v5 v6 v7 v8 v9 v10 v11 v12 v13 v14 v15 v16 v17 v18 v19 v20 v21 v22 v23 : Value) : putN rgc5 X ⟨#[v0, v1, v2, v3, v4, v5, v6, v7, v8, v9, v10, v11, v12, v13, v14, v15, v16, v17, v18, v19, v20, v21, v22, v23], []⟩ rgc5.size = ⟨#[v0, v1, v2, X 6, v4, v5, v6, v7, v8, v9, v10, v11, v12, v13, v14, v15, v16, v17, v18, X 0, X 1, X 2, X 3, X 4], []⟩ := by kernel_rfl
end Go.Proofs.YtlkbhgjmppcfoaaDoor

/- The document's Say and Call, of any finger. -/
namespace Go.Proofs.YtlkbhgjmppcfoaaDoor
open Go.RowKit Go.Shelf Go.Sort Go.Proofs.YtlkbhgjmppcfoaaDoor.Sha
attribute [local go_sem ↓] toFl to25s to25l toBuild toSs toCv toSuL
set_option maxRecDepth 100000 in
set_option maxHeartbeats 1000000 in
theorem sayR_any (f : Fg) (hln : f.L.length ≤ 1073741823) (w : World) (hv0 : Ls f.v f.L w) :
    Calls Tryd.prog 16 #[.agg (fing f)] w fun e w' => e = .returned (.tuple #[.string (sT f), .int .i64 ((chkV f : Nat) : Int)]) ∧ Below w.heap.size w w' := by
  by_cases h0 : chkV f = 0
  · have ok := ok_of h0
    have hs : sT f = sayT f := by unfold sT; rw [if_pos h0]
    rw [hs, h0]
    have hk : f.k = 1 ∨ f.k = 2 ∨ f.k = 3 ∨ f.k = 4 := by have := ok.k1; have := ok.k4; omega
    rcases hk with h | h | h | h
    · exact sayR_1 f h hln w hv0 ok
    · exact sayR_2 f h hln w hv0 ok
    · exact sayR_3 f h hln w hv0 ok
    · exact sayR_4 f h hln w hv0 ok
  · have hs : Hid (sT f = ⟨#[]⟩) := by show _ = _; unfold sT; rw [if_neg h0]
    obtain ⟨E, hE⟩ : ∃ E, E = chkV f := ⟨_, rfl⟩
    obtain ⟨W0, hW0⟩ : ∃ W0, w.alloc (.cells (fing f) 26) = W0 := ⟨_, rfl⟩
    have b0 : Below w.heap.size w W0 := by rw [← hW0]; exact (Below.refl _ w).alloc (Nat.le_refl _) _
    have r0 : W0.heap[w.heap.size]? = some (.cells (fing f) 26 (0, 0)) := by rw [← hW0]; exact heap_alloc_new w _
    have ld := run_ldF W0 w.heap.size f r0
    rw [← hW0] at ld
    have C0 := fit_any f W0 (hv0.below b0)
    rw [← hE] at C0
    have HC0 : Hid _ := C0
    have HW0 : Hid (w.alloc (.cells (fing f) 26) = W0) := hW0
    have HB0 : Hid (Below w.heap.size w W0) := b0
    have h0' : ¬ ((E : Int) = 0) := by omega
    rw [← hE]
    clear hW0 b0 r0 C0 hE h0 hv0
    go_enter Tryd.func16, Tryd.ntmps16
    go_wp2_with fail
    rw [HW0.out]
    refine Calls.mono HC0.out ?_
    rintro e W1 ⟨rfl, b1⟩
    have HB1 : Hid (Below w.heap.size w W1) := HB0.out.trans (b1.mono HB0.out.size)
    clear HC0 ld b1
    go_wp2
    go_ret2
    exact ⟨by rw [hs.out]; rfl, HB1.out⟩
/-- While the region's operations come: ahead of the store, behind it. -/
structure Ks (C L : World → Prop) (l : Array Bool) (W : World) : Prop where
  all : l.getD 5 false = true → ∀ i, i < 5 → l.getD i false = true
  fin : l.getD 5 false = true → L W
  cst : l.getD 5 false = false → C W
theorem Ks.opn {C L : World → Prop} {l : Array Bool} {W : World} (h : Ks C L l W) {i : Nat} (hi : i < 5) (hl : l.size = rgc5.size) (hu : l.getD i true = false) : l.getD 5 false = false := by
  cases hc : l.getD 5 false with
  | false => rfl
  | true =>
    have h1 := h.all hc i hi
    have h2 := un_false l i 7 (by rw [hl]; kernel_rfl) (by omega) hu
    rw [h2] at h1
    cases h1
theorem Ks.mv {C L : World → Prop} {l : Array Bool} {W : World} (h : Ks C L l W) (i : Nat) (h5 : i ≠ 5) : Ks C L (l.setIfInBounds i true) W :=
  ⟨fun a j hj => by rw [set_ne _ _ _ h5] at a; exact set_up _ _ _ (h.all a j hj), fun a => h.fin (by rw [set_ne _ _ _ h5] at a; exact a), fun a => h.cst (by rw [set_ne _ _ _ h5] at a; exact a)⟩
theorem ks_0 {C L : World → Prop} {W : World} {k : Nat} (h : C W) : Ks C L (Array.replicate k false) W :=
  ⟨fun a => (by rw [rep_false] at a; cases a), fun a => (by rw [rep_false] at a; cases a), fun _ => h⟩
/-- The finger's block, the label's, the sum's. -/
structure Cq (f : Fg) (Z : List Nat) (s : Nat) (w W : World) : Prop where
  bel : Below w.heap.size w W
  row : W.heap[w.heap.size]? = some (.cells (fing f) 26 (0, 0))
  lb : W.heap[w.heap.size + 1]? = some (.cells none25 34 (0, 0))
  sm : W.heap[s]? = some (.cells (bs Z) 24 (0, 0))
theorem Cq.below {f : Fg} {Z : List Nat} {s : Nat} {w W W' : World} (h : Cq f Z s w W) (b : Below W.heap.size W W') : Cq f Z s w W' :=
  ⟨h.bel.trans (b.mono h.bel.size), (b.block _ (Array.getElem?_eq_some_iff.1 h.row).1).trans h.row, (b.block _ (Array.getElem?_eq_some_iff.1 h.lb).1).trans h.lb, (b.block _ (Array.getElem?_eq_some_iff.1 h.sm).1).trans h.sm⟩
set_option maxRecDepth 100000 in
set_option maxHeartbeats 2000000 in
theorem callR_any (f : Fg) (hln : f.L.length ≤ 1073741823) (w : World) (ht : Tr w) (hsz : 6 < w.heap.size) (hv0 : Ls f.v f.L w) :
    Calls Tryd.prog 18 #[.agg (fing f)] w fun e w' => e = .returned (.tuple #[.agg (lab (cH f) (cN f)), .int .i64 ((chkV f : Nat) : Int)]) ∧ Below w.heap.size w w' := by
  obtain ⟨W0, hW0⟩ : ∃ W0, (w.alloc (.cells (fing f) 26)).alloc (.cells none25 34) = W0 := ⟨_, rfl⟩
  have b0 : Below w.heap.size w W0 := by rw [← hW0]; exact ((Below.refl _ w).alloc (Nat.le_refl _) _).alloc (by simp) _
  have r0 : W0.heap[w.heap.size]? = some (.cells (fing f) 26 (0, 0)) := by rw [← hW0]; exact heap_alloc2_old _ _ _
  have l0 : W0.heap[w.heap.size + 1]? = some (.cells none25 34 (0, 0)) := by rw [← hW0]; exact heap_alloc2_new _ _ _
  have ld := run_ldF W0 w.heap.size f r0
  obtain ⟨T, hT⟩ : ∃ T, T = sT f := ⟨_, rfl⟩
  obtain ⟨E, hE⟩ : ∃ E, E = chkV f := ⟨_, rfl⟩
  have C0 := sayR_any f hln W0 (hv0.below b0)
  rw [← hT, ← hE] at C0
  have HC0 : Hid _ := C0
  have HTT : Hid (T = sT f ∧ E = chkV f) := ⟨hT, hE⟩
  have HW0 : Hid ((w.alloc (.cells (fing f) 26)).alloc (.cells none25 34) = W0) := hW0
  have H0 : Hid (Below w.heap.size w W0 ∧ W0.heap[w.heap.size]? = some (.cells (fing f) 26 (0, 0)) ∧ W0.heap[w.heap.size + 1]? = some (.cells none25 34 (0, 0))) := ⟨b0, r0, l0⟩
  have HTR : Hid (∀ W, Below w.heap.size w W → Tr W) := fun W h => ht.below h hsz
  have ld' : (loadR 26 (.pointer (some ⟨w.heap.size, 0, none⟩))).run Tryd.prog ((w.alloc (.cells (fing f) 26)).alloc (.cells #[.int .u8 0, .int .u8 0, .int .u8 0, .int .u8 0, .int .u8 0, .int .u8 0, .int .u8 0, .int .u8 0, .int .u8 0, .int .u8 0, .int .u8 0, .int .u8 0, .int .u8 0, .int .u8 0, .int .u8 0, .int .u8 0, .int .u8 0, .int .u8 0, .int .u8 0, .int .u8 0, .string ⟨#[]⟩] 34)) = .ok (.agg (fing f)) ((w.alloc (.cells (fing f) 26)).alloc (.cells #[.int .u8 0, .int .u8 0, .int .u8 0, .int .u8 0, .int .u8 0, .int .u8 0, .int .u8 0, .int .u8 0, .int .u8 0, .int .u8 0, .int .u8 0, .int .u8 0, .int .u8 0, .int .u8 0, .int .u8 0, .int .u8 0, .int .u8 0, .int .u8 0, .int .u8 0, .int .u8 0, .string ⟨#[]⟩] 34)) := by
    have h2 : (w.alloc (.cells (fing f) 26)).alloc (.cells #[.int .u8 0, .int .u8 0, .int .u8 0, .int .u8 0, .int .u8 0, .int .u8 0, .int .u8 0, .int .u8 0, .int .u8 0, .int .u8 0, .int .u8 0, .int .u8 0, .int .u8 0, .int .u8 0, .int .u8 0, .int .u8 0, .int .u8 0, .int .u8 0, .int .u8 0, .int .u8 0, .string ⟨#[]⟩] 34) = W0 := hW0
    rw [h2]
    exact ld
  rw [← hE]
  clear ld hW0 b0 r0 l0 hT hE C0 ht hsz hv0 hln
  go_enter Tryd.func18, Tryd.ntmps18
  go_wp2_with fail
  show Calls _ _ _ ((w.alloc (.cells (fing f) 26)).alloc (.cells none25 34)) _
  rw [HW0.out]
  refine Calls.mono HC0.out ?_
  rintro e W1 ⟨rfl, b1⟩
  have H1 : Hid (Below w.heap.size w W1 ∧ W1.heap[w.heap.size]? = some (.cells (fing f) 26 (0, 0)) ∧ W1.heap[w.heap.size + 1]? = some (.cells none25 34 (0, 0))) := ⟨H0.out.1.trans (b1.mono H0.out.1.size), (b1.block _ (Array.getElem?_eq_some_iff.1 H0.out.2.1).1).trans H0.out.2.1, (b1.block _ (Array.getElem?_eq_some_iff.1 H0.out.2.2).1).trans H0.out.2.2⟩
  clear HC0 b1 H0 ld' HW0
  by_cases h0 : E = 0
  · subst h0
    have hchk : chkV f = 0 := HTT.out.2.symm
    have hTs : T.size ≤ 71000 := by
      have ok := ok_of hchk
      have hX : (str (hexL f.sm)).size = 64 := by rw [str_size, hexL_len]; have := f.hl; omega
      have hns := okN_size f.nm ok.nm
      have hh := head_size ok
      rw [HTT.out.1, sT, if_pos hchk, sayT, app_size, app_size, app_size, app_size, hX]
      show (headT f).size + 8 + 64 + 14 + f.nm.size ≤ 71000
      omega
    obtain ⟨Z, hZ⟩ : ∃ Z, Z = sha (bl T) := ⟨_, rfl⟩
    obtain ⟨F, hF⟩ : ∃ F, F = cH f := ⟨_, rfl⟩
    have hFZ : F = Big.fold Z := by rw [hF, cH, if_pos hchk, hZ, HTT.out.1, sT, if_pos hchk]; rfl
    have hFl : F.length = 20 := by rw [hF]; exact cH_len f
    have hNN : cN f = f.nm := by rw [cN, if_pos hchk]
    have HFO : Hid (∀ W, Calls Tryd.prog 32 #[.agg (bs Z)] W fun e w' => e = .returned (.agg (bs F)) ∧ Below W.heap.size W w') := fun W => by
      have := Big.foldR_any Z (by rw [hZ]; exact sha_len _) (by rw [hZ]; exact sha_byt _) W
      rw [hFZ]
      exact this
    obtain ⟨c, W2, rcv, hby, hb2⟩ := run_cvb W1 T (by omega)
    have rcv' : (cvR (.string T)).run Tryd.prog W1 = .ok (.slice (some ⟨W1.heap.size, 0, none⟩) T.size c) W2 := rcv
    have H2 : Hid (Below w.heap.size w W2 ∧ W2.heap[w.heap.size]? = some (.cells (fing f) 26 (0, 0)) ∧ W2.heap[w.heap.size + 1]? = some (.cells none25 34 (0, 0))) := ⟨H1.out.1.trans (hb2.mono H1.out.1.size), (hb2.block _ (Array.getElem?_eq_some_iff.1 H1.out.2.1).1).trans H1.out.2.1, (hb2.block _ (Array.getElem?_eq_some_iff.1 H1.out.2.2).1).trans H1.out.2.2⟩
    have CO := ofR_tb (bl T) _ (by rw [bl_len]; omega) (bl_byt T) W2 (HTR.out W2 H2.out.1) hby
    rw [← hZ] at CO
    have HCO : Hid _ := CO
    have hZl : Z.length = 32 := by rw [hZ]; exact sha_len _
    have HZL : Hid (Z.length = 32) := hZl
    have HFL : Hid (F.length = 20) := hFl
    have HHN : Hid (cH f = F ∧ cN f = f.nm) := ⟨hF.symm, hNN⟩
    clear CO hZ hF hFZ hFl hNN rcv hby hb2 hTs hZl hchk
    go_wp2_with fail
    refine Calls.mono HCO.out ?_
    rintro e W3 ⟨rfl, b3⟩
    obtain ⟨W4, s4, r4, b4⟩ := layS W3 Z HZL.out
    have C4 : Hid (Cq f Z W3.heap.size w W4) := by
      have q1 : Below w.heap.size w W3 := H2.out.1.trans (b3.mono H2.out.1.size)
      have b34 := b3.trans (b4.mono b3.size)
      exact ⟨q1.trans (b4.mono q1.size), (b34.block _ (Array.getElem?_eq_some_iff.1 H2.out.2.1).1).trans H2.out.2.1, (b34.block _ (Array.getElem?_eq_some_iff.1 H2.out.2.2).1).trans H2.out.2.2, r4⟩
    clear HCO b3 b4 r4 H1 H2 rcv'
    go_wp2_with fail
    refine wp_region_vals (ops := rgc5) (V := Vc5 w.heap.size f.nm Z F) (S := Ks (Cq f Z W3.heap.size w) (fun W => Below w.heap.size w W ∧ W.heap[w.heap.size + 1]? = some (.cells (lab F f.nm) 34 (0, 0)))) (by kernel_rfl) (fun i o ho => (okR_at okRc5 ho).1) (fun i j o oj d ho hj q1 q2 => (okR_at okRc5 ho).2.2 j oj d hj q1 q2) (fun i o d ho q => (okR_at okRc5 ho).2.1 d q)
      (stepc5 _ W3.heap.size (w.heap.size + 1) w.heap.size f.nm Z F _ _ rfl rfl rfl
        (fun i hi l W h => h.mv i (of_decide_eq_true hi).2)
        (fun l W h hs hu hd => by
          have h5 := h.opn (by omega) hs hu
          exact (HFO.out W).mono fun e w' ⟨a, b⟩ => ⟨a, ⟨fun x => (by rw [set_ne _ _ _ (by omega), h5] at x; cases x), fun x => (by rw [set_ne _ _ _ (by omega), h5] at x; cases x), fun _ => (h.cst h5).below b⟩⟩)
        (fun l W h hs hu hd => ⟨W, run_ldS W W3.heap.size Z (h.cst (h.opn (by omega) hs hu)).sm HZL.out, h.mv 0 (by omega)⟩)
        (fun l W h hs hu hd => by
          have := (fing_cells (h.cst (h.opn (by omega) hs hu)).row).2.2.2.2.2
          exact ⟨W, by simp [go_sem, this], h.mv 3 (by omega)⟩)
        (fun l W h hs hu hd => ⟨W, run_buildR W F HFL.out f.nm, h.mv 4 (by omega)⟩)
        (fun l W h hs hu hd => by
          have h5 := un_false l 5 7 (by rw [hs]; kernel_rfl) (by omega) hu
          have hc := h.cst h5
          refine ⟨_, run_storeR25 W (w.heap.size + 1) z20 F ⟨#[]⟩ f.nm hc.lb rfl HFL.out, ⟨fun _ i hi => set_up _ _ _ ?_, fun _ => ⟨below_setRow hc.bel (by omega) _, setRow_heap _ _ _ _ _ _ hc.lb⟩, fun a => ?_⟩⟩
          · match i, hi with
            | 0, _ => exact hd 0 (by kernel_rfl)
            | 1, _ => exact hd 1 (by kernel_rfl)
            | 2, _ => exact hd 2 (by kernel_rfl)
            | 3, _ => exact hd 3 (by kernel_rfl)
            | 4, _ => exact hd 4 (by kernel_rfl)
          · rw [set_eq _ _ (by rw [hs]; decide +kernel)] at a; cases a))
      (ks_0 (C4.out.below (below_drew W4))) (fun wE hE => ?_)
    rw [putc5]
    dsimp only [Vc5]
    have HL : Hid (Below w.heap.size w wE ∧ wE.heap[w.heap.size + 1]? = some (.cells (lab F f.nm) 34 (0, 0))) := hE.fin (by kernel_rfl)
    clear hE s4
    go_wp2_with fail
    rw [HHN.out.1, HHN.out.2]
    exact bodyPost_ret (results_cell2 rfl _ _ (w.heap.size + 1) F f.nm HFL.out rfl HL.out.2) rfl ⟨rfl, HL.out.1⟩
  · have hchk : ¬ chkV f = 0 := by rw [← HTT.out.2]; exact h0
    have hNN : cN f = ⟨#[]⟩ := by rw [cN, if_neg hchk]
    have hHH : cH f = z20 := by rw [cH, if_neg hchk]
    have HHN : Hid (cH f = z20 ∧ cN f = ⟨#[]⟩) := ⟨hHH, hNN⟩
    have h0' : ¬ ((E : Int) = 0) := by omega
    have hbu := run_build0
    have st : (storeR 34 (.pointer (some ⟨w.heap.size + 1, 0, none⟩)) (.agg none25)).run Tryd.prog W1 = .ok () (W1.setRow (w.heap.size + 1) none25) := run_storeR25 W1 (w.heap.size + 1) z20 z20 ⟨#[]⟩ ⟨#[]⟩ H1.out.2.2 rfl rfl
    have HR : Hid ((W1.setRow (w.heap.size + 1) none25).heap[w.heap.size + 1]? = some (.cells none25 34 (0, 0))) := setRow_heap _ _ _ _ _ _ H1.out.2.2
    have HB : Hid (Below w.heap.size w (W1.setRow (w.heap.size + 1) none25)) := below_setRow H1.out.1 (Nat.le_succ _) _
    clear hchk hNN hHH
    go_wp2_with fail
    rw [HHN.out.1, HHN.out.2]
    exact bodyPost_ret (results_cell2 rfl _ _ (w.heap.size + 1) z20 ⟨#[]⟩ rfl rfl HR.out) rfl ⟨rfl, HB.out⟩
end Go.Proofs.YtlkbhgjmppcfoaaDoor

/- LabelSays: the walk. -/
namespace Go.Proofs.YtlkbhgjmppcfoaaDoor
open Go.RowKit Go.Shelf Go.Sort Go.Proofs.YtlkbhgjmppcfoaaDoor.Sha
theorem fing_one (f : Fg) : (fing f)[1]? = some f.v := by
  unfold fing
  rw [Array.getElem?_append_left (by simp; omega), Array.getElem?_append_left (by simp)]
  rfl
def fV (f : Fg) (v : Value) : Fg := { f with v := v }
theorem fV_sT (f : Fg) (v : Value) : sT (fV f v) = sT f := rfl
theorem fV_chk (f : Fg) (v : Value) : chkV (fV f v) = chkV f := rfl
theorem fV_cH (f : Fg) (v : Value) : cH (fV f v) = cH f := rfl
theorem fV_cN (f : Fg) (v : Value) : cN (fV f v) = cN f := rfl
theorem fing_onec (f : Fg) (h : f.v.oneCell' = true) : (fing f).all (·.oneCell') = true := by
  simp [fing, bs, Value.oneCell']
  exact h
theorem toFs (p v : Value) : Instr.storeAt 26 p v = storeR 26 p v := rfl
theorem run_stF (w : World) (g : Nat) (a b : Fg) (hg : w.heap[g]? = some (.cells (fing a) 26 (0, 0))) (h : b.v.oneCell' = true) : (storeR 26 (.pointer (some ⟨g, 0, none⟩)) (.agg (fing b))).run Tryd.prog w = .ok () (w.setRow g (fing b)) := by
  unfold storeR
  simp only [Instr.storeAt, Instr.sureAddr, Sem.run_bind, Sem.run_pure, Result.andThen_ok, run_storeVar_row w g 26 26 (fing a) (fing b) hg (by rw [sizeF, fing_size]) (by rw [fing_size, fing_size]) (fing_onec b h)]
theorem fing_nil : fing fgN = #[.int .i64 0, .slice none 0 0, .bool false, .string ⟨#[]⟩, .int .i64 0, .int .u8 0, .int .u8 0, .int .u8 0, .int .u8 0, .int .u8 0, .int .u8 0, .int .u8 0, .int .u8 0, .int .u8 0, .int .u8 0, .int .u8 0, .int .u8 0, .int .u8 0, .int .u8 0, .int .u8 0, .int .u8 0, .int .u8 0, .int .u8 0, .int .u8 0, .int .u8 0, .int .u8 0, .int .u8 0, .int .u8 0, .int .u8 0, .int .u8 0, .int .u8 0, .int .u8 0, .int .u8 0, .int .u8 0, .int .u8 0, .int .u8 0, .int .u8 0, .string ⟨#[]⟩] := by kernel_rfl
theorem layF (W : World) (f : Fg) (h : f.v.oneCell' = true) : ∃ W', (storeR 26 (.pointer (some ⟨W.heap.size, 0, none⟩)) (.agg (fing f))).run Tryd.prog (W.alloc (.cells #[.int .i64 0, .slice none 0 0, .bool false, .string ⟨#[]⟩, .int .i64 0, .int .u8 0, .int .u8 0, .int .u8 0, .int .u8 0, .int .u8 0, .int .u8 0, .int .u8 0, .int .u8 0, .int .u8 0, .int .u8 0, .int .u8 0, .int .u8 0, .int .u8 0, .int .u8 0, .int .u8 0, .int .u8 0, .int .u8 0, .int .u8 0, .int .u8 0, .int .u8 0, .int .u8 0, .int .u8 0, .int .u8 0, .int .u8 0, .int .u8 0, .int .u8 0, .int .u8 0, .int .u8 0, .int .u8 0, .int .u8 0, .int .u8 0, .int .u8 0, .string ⟨#[]⟩] 26)) = .ok () W' ∧ W'.heap[W.heap.size]? = some (.cells (fing f) 26 (0, 0)) ∧ Below W.heap.size W W' := by
  have h := run_stF (W.alloc (.cells (fing fgN) 26)) W.heap.size fgN f (heap_alloc_new _ _) h
  rw [fing_nil] at h
  exact ⟨_, h, setRow_heap _ _ _ _ _ _ (heap_alloc_new _ _), below_setRow ((Below.refl _ W).alloc (Nat.le_refl _) _) (Nat.le_refl _) _⟩
theorem fing_set (f : Fg) (v : Value) : (fing f).setIfInBounds 1 v = fing (fV f v) := by
  apply Array.ext'
  simp [fing, fV]
attribute [local go_sem ↓] toFs to25s to25l toEq toBuildF toSuL toSs toCv toFl toSlL
set_option maxRecDepth 100000 in
set_option maxHeartbeats 2000000 in
theorem says_any (f : Fg) (hn : f.L.length ≤ 1073741823) (w : World) (hk : Tk w) (hx : Tx w) (ht : Tb w) (hr : Tr w) (hv0 : Ls f.v f.L w) :
    Calls Tryd.prog 4 #[.agg (fing f)] w fun e w' => e = .returned (.bool true) ∧ Below w.heap.size w w' := by
  obtain ⟨o, c, hvv, -, -⟩ := hv0.form
  have HT : Hid (∀ W, Below w.heap.size w W → Tk W ∧ Tx W ∧ Tb W ∧ Tr W ∧ Ls f.v f.L W) := fun W h => ⟨hk.below h hk.sz, hx.below h hx.sz, ht.below h ht.sz, hr.below h ht.sz, hv0.below h⟩
  have HZ : Hid (6 < w.heap.size) := ht.sz
  obtain ⟨n, hn0⟩ : ∃ n, n = f.L.length := ⟨_, rfl⟩
  have HN : Hid (n = f.L.length ∧ n ≤ 1073741823) := ⟨hn0, by omega⟩
  have f1 := fing_one f
  rw [hvv, ← hn0] at f1
  have HVV : Hid (f.v = .slice o n c) := by rw [hvv, hn0]; trivial
  obtain ⟨W0, hW0⟩ : ∃ W0, w.alloc (.cells (fing f) 26) = W0 := ⟨_, rfl⟩
  have HW0 : Hid (w.alloc (.cells (fing f) 26) = W0) := hW0
  have b0 : Below w.heap.size w W0 := by rw [← hW0]; exact (Below.refl _ w).alloc (Nat.le_refl _) _
  have r0 : W0.heap[w.heap.size]? = some (.cells (fing f) 26 (0, 0)) := by rw [← hW0]; exact heap_alloc_new w _
  have H0 : Hid (Below w.heap.size w W0 ∧ W0.heap[w.heap.size]? = some (.cells (fing f) 26 (0, 0))) := ⟨b0, r0⟩
  have C1 := roomy_any f.L (by omega) f.v W0 (hv0.below b0)
  rw [hvv, ← hn0] at C1
  have HC1 : Hid _ := C1
  clear hk hx ht hr hv0 hvv hn0 hW0 b0 r0 C1 hn
  go_enter Tryd.func4, Tryd.ntmps4
  go_wp2_with fail
  rw [HW0.out]
  refine Calls.mono HC1.out ?_
  rintro e W1 ⟨u, rfl, o1, b1⟩
  obtain ⟨g, cap, rfl, hgw, hg1, hcap, hcm, hr⟩ : ∃ g cap, u = .slice (some ⟨g, 0, none⟩) (n + 2) cap ∧ W0.heap.size ≤ g ∧ g < W1.heap.size ∧ n + 2 ≤ cap ∧ cap ≤ maxLen ∧ Lr g 0 (f.L ++ [mk, mk]) W1 := by
    obtain ⟨-, ⟨h, -⟩ | ⟨g, cap, h1, h2, h3, h4, h5, h6⟩⟩ := own_ls o1
    · simp at h
    · have e : (f.L ++ [mk, mk]).length = n + 2 := by rw [List.length_append, HN.out.1]; rfl
      rw [e] at h1 h4
      exact ⟨g, cap, h1, h2, h3, h4, h5, h6⟩
  have HA : Hid (Lr g 0 (f.L ++ [mk, mk]) W1) := hr
  have HB1 : Hid (Below w.heap.size w W1) := H0.out.1.trans (b1.mono H0.out.1.size)
  have R1 : Hid (W1.heap[w.heap.size]? = some (.cells (fing f) 26 (0, 0))) := (b1.block _ (Array.getElem?_eq_some_iff.1 H0.out.2).1).trans H0.out.2
  have HLs : Hid (Ls (.slice (some ⟨g, 0, none⟩) n cap) f.L W1) := .inr ⟨g, 0, cap, by rw [HN.out.1], by have := HN.out; omega, hcm, hg1, fun i x hx => hr i x (by rw [List.getElem?_append_left (List.getElem?_eq_some_iff.1 hx).1]; exact hx)⟩
  have ch := fun X : World => run_cuth X g 0 (n + 2) cap n (by omega)
  have HC : Hid (n + 2 ≤ cap ∧ cap ≤ maxLen ∧ g < W1.heap.size) := ⟨hcap, hcm, hg1⟩
  have ld := run_ldF W1 w.heap.size f R1.out
  have c1 : W1.cell? ⟨w.heap.size, 1, none⟩ = some (.slice o n c) := by rw [← HVV.out]; exact (fing_cells R1.out).2.1
  clear HC1 o1 b1 hr H0 HW0 hcap hcm hg1 hgw f1
  obtain ⟨W2, s2, r2, b2⟩ := layF W1 f (by rw [HVV.out]; rfl)
  obtain ⟨gg, hgg⟩ : ∃ gg, gg = W1.heap.size := ⟨_, rfl⟩
  have c2 : W2.cell? ⟨w.heap.size, 1, none⟩ = some (.slice o n c) := by
    rw [← HVV.out]
    exact (fing_cells ((b2.block _ (Array.getElem?_eq_some_iff.1 R1.out).1).trans R1.out)).2.1
  have cg : W2.cell? ⟨W1.heap.size, 1, none⟩ = some (.slice o n c) := by
    rw [← HVV.out]
    exact (fing_cells r2).2.1
  have fr : W2.frozen? ⟨W1.heap.size, 1, none⟩ = false := by simp [World.frozen?, r2]
  have e3 : W2.setCell ⟨W1.heap.size, 1, none⟩ (.slice (some ⟨g, 0, none⟩) n cap) = W2.setRow W1.heap.size (fing (fV f (.slice (some ⟨g, 0, none⟩) n cap))) := by
    rw [setCell_eq_setRow _ _ _ _ _ _ _ r2, fing_set]
  obtain ⟨W3, h3⟩ : ∃ W3, W2.setCell ⟨W1.heap.size, 1, none⟩ (.slice (some ⟨g, 0, none⟩) n cap) = W3 := ⟨_, rfl⟩
  have b3 : Below W1.heap.size W1 W3 := by rw [← h3, e3]; exact below_setRow b2 (Nat.le_refl _) _
  have r3 : W3.heap[W1.heap.size]? = some (.cells (fing (fV f (.slice (some ⟨g, 0, none⟩) n cap))) 26 (0, 0)) := by rw [← h3, e3]; exact setRow_heap _ _ _ _ _ _ r2
  have ld3 := run_ldF W3 W1.heap.size _ r3
  obtain ⟨f2, hf2⟩ : ∃ f2, f2 = fV f (.slice (some ⟨g, 0, none⟩) n cap) := ⟨_, rfl⟩
  have HF2 : Hid (f2 = fV f (.slice (some ⟨g, 0, none⟩) n cap)) := hf2
  rw [← hf2] at ld3 r3
  have HK : Hid (∀ X, Below W3.heap.size W3 X → Below w.heap.size w X ∧ X.heap[w.heap.size]? = some (.cells (fing f) 26 (0, 0)) ∧ X.heap[gg]? = some (.cells (fing f2) 26 (0, 0)) ∧ Ls f2.v f2.L X ∧ Lr g 0 (f.L ++ [mk, mk]) X ∧ g < X.heap.size) := fun X h => by
    have q : Below W1.heap.size W1 X := b3.trans (h.mono b3.size)
    have q0 : Below w.heap.size w X := HB1.out.trans (q.mono HB1.out.size)
    refine ⟨q0, (q.block _ (Array.getElem?_eq_some_iff.1 R1.out).1).trans R1.out, ?_, ?_, HA.out.keep (q.block g HC.out.2.2), by have := q.size; have := HC.out.2.2; omega⟩
    · rw [hgg]
      exact (h.block _ (Array.getElem?_eq_some_iff.1 r3).1).trans r3
    · rw [hf2]
      exact HLs.out.below q
  obtain ⟨T, hT⟩ : ∃ T, T = sT f := ⟨_, rfl⟩
  obtain ⟨E, hE⟩ : ∃ E, E = chkV f := ⟨_, rfl⟩
  obtain ⟨LH, hLH⟩ : ∃ LH, LH = cH f := ⟨_, rfl⟩
  obtain ⟨LN, hLN⟩ : ∃ LN, LN = cN f := ⟨_, rfl⟩
  have HEQ : Hid (T = sT f ∧ E = chkV f ∧ LH = cH f ∧ LN = cN f) := ⟨hT, hE, hLH, hLN⟩
  have HL20 : Hid (LH.length = 20) := by show _ = _; rw [hLH]; exact cH_len f
  have HS : Hid (∀ X, Below W3.heap.size W3 X → Calls Tryd.prog 5 #[.agg (fing f2)] X fun e w' => e = .returned (.tuple #[.string T, .int .i64 ((E : Nat) : Int)]) ∧ Below W3.heap.size W3 w') := fun X h => by
    obtain ⟨k1, k2, k3, k4, k5, k6⟩ := HK.out X h
    have := say_c f2 X (HT.out X k1).1 (HT.out X k1).2.1 k4
    rw [HF2.out, fV_sT, fV_chk, ← hT, ← hE, ← HF2.out] at this
    exact this.mono fun e w' ⟨a, b⟩ => ⟨a, h.trans (b.mono h.size)⟩
  have HSR : Hid (∀ X, Below W3.heap.size W3 X → Calls Tryd.prog 16 #[.agg (fing f)] X fun e w' => e = .returned (.tuple #[.string T, .int .i64 ((E : Nat) : Int)]) ∧ Below W3.heap.size W3 w') := fun X h => by
    obtain ⟨k1, k2, k3, k4, k5, k6⟩ := HK.out X h
    have := sayR_any f (by have := HN.out; omega) X (HT.out X k1).2.2.2.2
    rw [← hT, ← hE] at this
    exact this.mono fun e w' ⟨a, b⟩ => ⟨a, h.trans (b.mono h.size)⟩
  have HCC : Hid (∀ X, Below W3.heap.size W3 X → Calls Tryd.prog 6 #[.agg (fing f2)] X fun e w' => e = .returned (.tuple #[.agg (lab LH LN), .int .i64 ((E : Nat) : Int)]) ∧ Below W3.heap.size W3 w' ∧ Below X.heap.size X w') := fun X h => by
    obtain ⟨k1, k2, k3, k4, k5, k6⟩ := HK.out X h
    have := call_c f2 X (HT.out X k1).1 (HT.out X k1).2.1 (HT.out X k1).2.2.1 k4
    rw [HF2.out, fV_cH, fV_cN, fV_chk, ← hLH, ← hLN, ← hE, ← HF2.out] at this
    exact this.mono fun e w' ⟨a, b⟩ => ⟨a, h.trans (b.mono h.size), b⟩
  have HCR : Hid (∀ X, Below W3.heap.size W3 X → Calls Tryd.prog 18 #[.agg (fing f)] X fun e w' => e = .returned (.tuple #[.agg (lab LH LN), .int .i64 ((E : Nat) : Int)]) ∧ Below W3.heap.size W3 w' ∧ Below X.heap.size X w') := fun X h => by
    obtain ⟨k1, k2, k3, k4, k5, k6⟩ := HK.out X h
    have := callR_any f (by have := HN.out; omega) X (HT.out X k1).2.2.2.1 (HT.out X k1).2.2.1.sz (HT.out X k1).2.2.2.2
    rw [← hLH, ← hLN, ← hE] at this
    exact this.mono fun e w' ⟨a, b⟩ => ⟨a, h.trans (b.mono h.size), b⟩
  have HKE : Hid (∀ X, Below W3.heap.size W3 X → Calls Tryd.prog 17 #[.slice (some ⟨g, 0, none⟩) (n + 2) cap, .slice o n c] X fun e w' => e = .returned (.bool true) ∧ Below W3.heap.size W3 w') := fun X h => by
    obtain ⟨k1, k2, k3, k4, k5, k6⟩ := HK.out X h
    have hc := HC.out
    have := kept_any f.L (by have := HN.out; omega) g cap (.slice o n c) X k6 k5 (by rw [← HN.out.1]; exact hc.1) hc.2.1 (by rw [← HVV.out]; exact (HT.out X k1).2.2.2.2)
    rw [← HN.out.1] at this
    exact this.mono fun e w' ⟨a, b⟩ => ⟨a, h.trans (b.mono h.size)⟩
  have HLD : Hid (∀ X, Below W3.heap.size W3 X → (loadR 26 (.pointer (some ⟨w.heap.size, 0, none⟩))).run Tryd.prog X = .ok (.agg (fing f)) X ∧ (loadR 26 (.pointer (some ⟨W1.heap.size, 0, none⟩))).run Tryd.prog X = .ok (.agg (fing f2)) X ∧ X.cell? ⟨w.heap.size, 1, none⟩ = some (.slice o n c)) := fun X h => by
    obtain ⟨k1, k2, k3, k4, k5, k6⟩ := HK.out X h
    refine ⟨run_ldF X _ f k2, by rw [← hgg]; exact run_ldF X _ f2 k3, ?_⟩
    rw [← HVV.out]
    exact (fing_cells k2).2.1
  clear e3 r2 b2 hT hE hLH hLN HEQ HA HB1 R1 HLs HC HVV HN HZ hgg b3 r3 hf2 HF2
  go_wp2_with fail
  refine Calls.mono (HS.out W3 (Below.refl _ _)) ?_
  rintro e W4 ⟨rfl, b4⟩
  have B4 : Hid (Below W3.heap.size W3 W4) := b4
  obtain ⟨l4, -, c4⟩ := HLD.out W4 b4
  clear s2 c1 c2 cg fr h3 ld ld3 ch b4
  go_wp2_with fail
  refine Calls.mono (HSR.out W4 B4.out) ?_
  rintro e W5 ⟨rfl, b5⟩
  have B5 : Hid (Below W3.heap.size W3 W5) := b5
  obtain ⟨-, -, c5⟩ := HLD.out W5 b5
  clear l4 c4 b5 HS HSR
  go_wp2_with fail
  refine Calls.mono (HKE.out W5 B5.out) ?_
  rintro e W6 ⟨rfl, b6⟩
  have B6 : Hid (Below W3.heap.size W3 W6) := b6
  obtain ⟨-, l6, -⟩ := HLD.out W6 b6
  clear c5 b6
  go_wp2_with fail
  refine Calls.mono (HCC.out W6 B6.out) ?_
  rintro e W7 ⟨rfl, b7, -⟩
  obtain ⟨W8, s8, r8, b8⟩ := layL W7 LH LN HL20.out
  have B8 : Hid (Below W3.heap.size W3 W8) := b7.trans (b8.mono b7.size)
  have R8 : Hid (W8.heap[W7.heap.size]? = some (.cells (lab LH LN) 34 (0, 0))) := r8
  obtain ⟨l8, -, -⟩ := HLD.out W8 B8.out
  clear HCC l6 b7 b8 r8
  go_wp2_with fail
  refine Calls.mono (HCR.out W8 B8.out) ?_
  rintro e W9 ⟨rfl, b9, d9⟩
  obtain ⟨WA, sA, rA, bA⟩ := layL W9 LH LN HL20.out
  have BA : Hid (Below W3.heap.size W3 WA) := b9.trans (bA.mono b9.size)
  have RA : Hid (WA.heap[W9.heap.size]? = some (.cells (lab LH LN) 34 (0, 0)) ∧ WA.heap[W7.heap.size]? = some (.cells (lab LH LN) 34 (0, 0))) := by
    have q : Below W8.heap.size W8 WA := d9.trans (bA.mono d9.size)
    exact ⟨rA, (q.block _ (Array.getElem?_eq_some_iff.1 R8.out).1).trans R8.out⟩
  obtain ⟨-, -, cA⟩ := HLD.out WA BA.out
  have m1 := run_loadR25 WA W9.heap.size LH LN RA.out.1 HL20.out
  have m2 := run_loadR25 WA W7.heap.size LH LN RA.out.2 HL20.out
  have me := eq_same LH LN HL20.out WA
  clear HCR l8 b9 d9 bA rA s8
  go_wp2_with fail
  refine Calls.mono (HKE.out WA BA.out) ?_
  rintro e WB ⟨rfl, bB⟩
  have HBB : Hid (Below w.heap.size w WB) := (HK.out WB bB).1
  clear bB
  go_wp2
  go_ret
  exact ⟨rfl, HBB.out⟩
end Go.Proofs.YtlkbhgjmppcfoaaDoor
