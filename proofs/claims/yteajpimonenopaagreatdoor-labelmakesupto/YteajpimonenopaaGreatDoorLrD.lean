/- Several texts in one: LqR, Lq5, Lm2, Lm3. -/
import Derived.Test.YteajpimonenopaaGreatDoorLrB
import Derived.Test.YteajpimonenopaaGreatDoorLrC
import Derived.Test.YteajpimonenopaaGreatDoorLmX
import Derived.Test.YteajpimonenopaaGreatDoorLm1
/- The operations of the drawn region of the document's Call, each by its value. -/
namespace Go.Proofs.YteajpimonenopaaGreatDoor
open Go.RowKit
noncomputable def rgc5 : Array Oper := ((Tryz.f20.body.bind (findR 5)).getD #[])
theorem okRc5 : okR rgc5 24 = true := by kernel_rfl
def Vc5 (g : Nat) (n : ByteArray) (Z F : List Nat) : Nat → Value
  | 0 => .agg (bs Z)
  | 1 => .agg (bs F)
  | 2 => .pointer (some ⟨g, 37, none⟩)
  | 3 => .string n
  | 4 => .agg (lab F n)
  | 6 => .int .i64 0
  | _ => undef
set_option maxRecDepth 100000 in
set_option maxHeartbeats 1000000 in
theorem stepc5 (a0 : Act) (s r : Nat) (g : Nat) (n : ByteArray) (Z F : List Nat) (S : Array Bool → World → Prop) (Q : Exit → Act → World → Prop) (h6 : a0.tmps[6]? = some (.pointer (some ⟨s, 0, none⟩))) (h1 : a0.tmps[1]? = some (.pointer (some ⟨g, 0, none⟩))) (h2 : a0.tmps[2]? = some (.pointer (some ⟨r, 0, none⟩)))
    (hmv : ∀ i : Nat, decide (i ≠ 1 ∧ i ≠ 5) = true → ∀ listed W, S listed W → S (listed.setIfInBounds i true) W) (hc : ∀ listed W, S listed W → listed.size = rgc5.size → listed.getD 1 true = false → (∀ j, ((rgc5[1]?).map fun o => o.after.any fun e => Region.binds .any e && e.on == j) = some true → listed.getD j false = true) → Calls Tryz.prog 32 #[.agg (bs Z)] W fun e w' => e = .returned (.agg (bs F)) ∧ S (listed.setIfInBounds 1 true) w') (hl0 : ∀ listed W, S listed W → listed.size = rgc5.size → listed.getD 0 true = false → (∀ j, ((rgc5[0]?).map fun o => o.after.any fun e => Region.binds .any e && e.on == j) = some true → listed.getD j false = true) → ∃ W2, (Instr.loadAt 24 (.pointer (some ⟨s, 0, none⟩))).run Tryz.prog W = .ok (.agg (bs Z)) W2 ∧ S (listed.setIfInBounds 0 true) W2) (hl3 : ∀ listed W, S listed W → listed.size = rgc5.size → listed.getD 3 true = false → (∀ j, ((rgc5[3]?).map fun o => o.after.any fun e => Region.binds .any e && e.on == j) = some true → listed.getD j false = true) → ∃ W2, (Instr.loadAt 9 (.pointer (some ⟨g, 37, none⟩))).run Tryz.prog W = .ok (.string n) W2 ∧ S (listed.setIfInBounds 3 true) W2) (hbu : ∀ listed W, S listed W → listed.size = rgc5.size → listed.getD 4 true = false → (∀ j, ((rgc5[4]?).map fun o => o.after.any fun e => Region.binds .any e && e.on == j) = some true → listed.getD j false = true) → ∃ W2, (Instr.build 30 #[(0, .agg (bs F)), (1, .string n)]).run Tryz.prog W = .ok (.agg (lab F n)) W2 ∧ S (listed.setIfInBounds 4 true) W2) (hst : ∀ listed W, S listed W → listed.size = rgc5.size → listed.getD 5 true = false → (∀ j, ((rgc5[5]?).map fun o => o.after.any fun e => Region.binds .any e && e.on == j) = some true → listed.getD j false = true) → ∃ W2, (Instr.storeAt 30 (.pointer (some ⟨r, 0, none⟩)) (.agg (lab F n))).run Tryz.prog W = .ok (()) W2 ∧ S (listed.setIfInBounds 5 true) W2)
    (i : Nat) (o : Oper) (a : Act) (w : World) (listed : Array Bool) (ho : rgc5[i]? = some o) (hF : RFr rgc5 a0 (Vc5 g n Z F) listed a) (hS : S listed w) (hls : listed.size = rgc5.size) (hun : listed.getD i true = false) (hdep : ∀ e ∈ o.after, Region.binds .any e = true → listed.getD e.on false = true) :
      if Region.wanted o (yielded rgc5 a.tmps) = true then Oper.wp Tryz.prog o a w (fun a' w' => a' = a.put o.dst (Vc5 g n Z F i) ∧ S (listed.setIfInBounds i true) w') Q else Vc5 g n Z F i = undef ∧ S (listed.setIfInBounds i true) w := by
  match i, ho with
  | 0, ho =>
    rw [if_pos (want_none (fact ho (by kernel_rfl)))]
    have hop : o.op = .load 24 (.tmp 6) := fact ho (by kernel_rfl)
    have hds : o.dst = some 19 := fact ho (by kernel_rfl)
    have t6 := tm_old hF 6 _ h6 (by kernel_rfl)
    obtain ⟨W2, hr, hS2⟩ := hl0 listed w hS hls hun (fun j hj => dep_of ho hdep j hj)
    unfold Oper.wp
    simp [execOp, hop, hds, Act.eval, t6, hr, Oper.upon, Act.put, Vc5, hS2]
  | 1, ho =>
    rw [if_pos (want_none (fact ho (by kernel_rfl)))]
    have hop : o.op = .call { callee := .value (.func 32), args := #[.tmp 19], argTypes := #[24] } := fact ho (by kernel_rfl)
    have hds : o.dst = some 20 := fact ho (by kernel_rfl)
    have t19 := tm_dep hF 0 19 (by kernel_rfl) (dep_of ho hdep 0 (by kernel_rfl))
    simp only [Vc5] at t19
    unfold Oper.wp
    simp [execOp, hop, hds, t19, go_sem, Vc5]
    refine (hc listed w hS hls hun (fun j hj => dep_of ho hdep j hj)).mono ?_
    rintro e w' ⟨rfl, hS'⟩
    exact ⟨rfl, hS'⟩
  | 2, ho =>
    rw [if_pos (want_none (fact ho (by kernel_rfl)))]
    have hop : o.op = .fieldAddr 44 (.tmp 1) 6 := fact ho (by kernel_rfl)
    have hds : o.dst = some 21 := fact ho (by kernel_rfl)
    have t1 := tm_old hF 1 _ h1 (by kernel_rfl)
    have hS2 := hmv 2 (by decide) listed w hS
    unfold Oper.wp
    simp [execOp, hop, hds, t1, go_sem, Vc5, hS2]
  | 3, ho =>
    rw [if_pos (want_none (fact ho (by kernel_rfl)))]
    have hop : o.op = .load 9 (.tmp 21) := fact ho (by kernel_rfl)
    have hds : o.dst = some 22 := fact ho (by kernel_rfl)
    have t21 := tm_dep hF 2 21 (by kernel_rfl) (dep_of ho hdep 2 (by kernel_rfl))
    simp only [Vc5] at t21
    obtain ⟨W2, hr, hS2⟩ := hl3 listed w hS hls hun (fun j hj => dep_of ho hdep j hj)
    unfold Oper.wp
    simp [execOp, hop, hds, Act.eval, t21, hr, Oper.upon, Act.put, Vc5, hS2]
  | 4, ho =>
    rw [if_pos (want_none (fact ho (by kernel_rfl)))]
    have hop : o.op = .build 30 #[(0, .tmp 20), (1, .tmp 22)] := fact ho (by kernel_rfl)
    have hds : o.dst = some 23 := fact ho (by kernel_rfl)
    have t20 := tm_dep hF 1 20 (by kernel_rfl) (dep_of ho hdep 1 (by kernel_rfl))
    simp only [Vc5] at t20
    have t22 := tm_dep hF 3 22 (by kernel_rfl) (dep_of ho hdep 3 (by kernel_rfl))
    simp only [Vc5] at t22
    obtain ⟨W2, hr, hS2⟩ := hbu listed w hS hls hun (fun j hj => dep_of ho hdep j hj)
    unfold Oper.wp
    simp [execOp, hop, hds, Act.eval, t20, t22, hr, Oper.upon, Act.put, Vc5, hS2]
  | 5, ho =>
    rw [if_pos (want_none (fact ho (by kernel_rfl)))]
    have hop : o.op = .store 30 (.tmp 2) (.tmp 23) := fact ho (by kernel_rfl)
    have hds : o.dst = none := fact ho (by kernel_rfl)
    have t2 := tm_old hF 2 _ h2 (by kernel_rfl)
    have t23 := tm_dep hF 4 23 (by kernel_rfl) (dep_of ho hdep 4 (by kernel_rfl))
    simp only [Vc5] at t23
    obtain ⟨W2, hr, hS2⟩ := hst listed w hS hls hun (fun j hj => dep_of ho hdep j hj)
    unfold Oper.wp
    simp [execOp, hop, hds, Act.eval, t2, t23, hr, Oper.upon, Act.put, hS2]
  | 6, ho =>
    rw [if_pos (want_none (fact ho (by kernel_rfl)))]
    have hop : o.op = .assign (.const (.int .i64 0)) := fact ho (by kernel_rfl)
    have hds : o.dst = some 3 := fact ho (by kernel_rfl)
    have hS2 := hmv 6 (by decide) listed w hS
    unfold Oper.wp
    simp [execOp, hop, hds, go_sem, Vc5, hS2]
  | n + 7, ho =>
    exfalso
    have h1 : n + 7 < rgc5.size := (Array.getElem?_eq_some_iff.1 ho).1
    rw [show rgc5.size = 7 from by kernel_rfl] at h1
    omega
set_option maxRecDepth 100000 in
theorem putc5 (X : Nat → Value) (v0 v1 v2 v3 v4 v5 v6 v7 v8 v9 v10 v11 v12 v13 v14 v15 v16 v17 v18 v19 v20 v21 v22 v23 : Value) : putN rgc5 X ⟨#[v0, v1, v2, v3, v4, v5, v6, v7, v8, v9, v10, v11, v12, v13, v14, v15, v16, v17, v18, v19, v20, v21, v22, v23], []⟩ rgc5.size = ⟨#[v0, v1, v2, X 6, v4, v5, v6, v7, v8, v9, v10, v11, v12, v13, v14, v15, v16, v17, v18, X 0, X 1, X 2, X 3, X 4], []⟩ := by kernel_rfl
end Go.Proofs.YteajpimonenopaaGreatDoor

/- The document's Say and Call, of any finger. -/
namespace Go.Proofs.YteajpimonenopaaGreatDoor
open Go.RowKit Go.Shelf Go.Sort Go.Proofs.YteajpimonenopaaGreatDoor.Sha
attribute [local go_sem ↓] toFl to25s to25l toBuild toSs toCv toSuL
set_option maxRecDepth 100000 in
set_option maxHeartbeats 1000000 in
theorem sayR_any (f : Fg) (hln : f.L.length ≤ 1073741823) (w : World) (hv0 : Ls f.v f.L w) :
    Calls Tryz.prog 31 #[.agg (fing f)] w fun e w' => e = .returned (.tuple #[.string (sT f), .int .i64 ((chkV f : Nat) : Int)]) ∧ Below w.heap.size w w' := by
  by_cases h0 : chkV f = 0
  · have ok := ok_of h0
    have hs : sT f = sayT f := by unfold sT; rw [if_pos h0]
    rw [hs, h0]
    have hk : f.k = 1 ∨ f.k = 2 ∨ f.k = 3 ∨ f.k = 4 := by have := ok.k1; have := ok.k4; omega
    rcases hk with h | h | h | h
    · exact sayR_1 f h hln w hv0 ok
    · exact sayR_2 f h hln w hv0 ok
    · exact sayR_3 f h hln w hv0 ok
    · exact sayR_4 f h hln w hv0 ok
  · have hs : Hid (sT f = ⟨#[]⟩) := by show _ = _; unfold sT; rw [if_neg h0]
    obtain ⟨E, hE⟩ : ∃ E, E = chkV f := ⟨_, rfl⟩
    obtain ⟨W0, hW0⟩ : ∃ W0, w.alloc (.cells (fing f) 44) = W0 := ⟨_, rfl⟩
    have b0 : Below w.heap.size w W0 := by rw [← hW0]; exact (Below.refl _ w).alloc (Nat.le_refl _) _
    have r0 : W0.heap[w.heap.size]? = some (.cells (fing f) 44 (0, 0)) := by rw [← hW0]; exact heap_alloc_new w _
    have ld := run_ldF W0 w.heap.size f r0
    rw [← hW0] at ld
    have C0 := fit_any f W0 (hv0.below b0)
    rw [← hE] at C0
    have HC0 : Hid _ := C0
    have HW0 : Hid (w.alloc (.cells (fing f) 44) = W0) := hW0
    have HB0 : Hid (Below w.heap.size w W0) := b0
    have h0' : ¬ ((E : Int) = 0) := by omega
    rw [← hE]
    clear hW0 b0 r0 C0 hE h0 hv0
    go_enter Tryz.func31, Tryz.ntmps31
    go_wp2_with fail
    rw [HW0.out]
    refine Calls.mono HC0.out ?_
    rintro e W1 ⟨rfl, b1⟩
    have HB1 : Hid (Below w.heap.size w W1) := HB0.out.trans (b1.mono HB0.out.size)
    clear HC0 ld b1
    go_wp2
    go_ret2
    exact ⟨by rw [hs.out]; rfl, HB1.out⟩
/-- While the region's operations come: ahead of the store, behind it. -/
structure Ks (C L : World → Prop) (l : Array Bool) (W : World) : Prop where
  all : l.getD 5 false = true → ∀ i, i < 5 → l.getD i false = true
  fin : l.getD 5 false = true → L W
  cst : l.getD 5 false = false → C W
theorem Ks.opn {C L : World → Prop} {l : Array Bool} {W : World} (h : Ks C L l W) {i : Nat} (hi : i < 5) (hl : l.size = rgc5.size) (hu : l.getD i true = false) : l.getD 5 false = false := by
  cases hc : l.getD 5 false with
  | false => rfl
  | true =>
    have h1 := h.all hc i hi
    have h2 := un_false l i 7 (by rw [hl]; kernel_rfl) (by omega) hu
    rw [h2] at h1
    cases h1
theorem Ks.mv {C L : World → Prop} {l : Array Bool} {W : World} (h : Ks C L l W) (i : Nat) (h5 : i ≠ 5) : Ks C L (l.setIfInBounds i true) W :=
  ⟨fun a j hj => by rw [set_ne _ _ _ h5] at a; exact set_up _ _ _ (h.all a j hj), fun a => h.fin (by rw [set_ne _ _ _ h5] at a; exact a), fun a => h.cst (by rw [set_ne _ _ _ h5] at a; exact a)⟩
theorem ks_0 {C L : World → Prop} {W : World} {k : Nat} (h : C W) : Ks C L (Array.replicate k false) W :=
  ⟨fun a => (by rw [rep_false] at a; cases a), fun a => (by rw [rep_false] at a; cases a), fun _ => h⟩
/-- The finger's block, the label's, the sum's. -/
structure Cq (f : Fg) (Z : List Nat) (s : Nat) (w W : World) : Prop where
  bel : Below w.heap.size w W
  row : W.heap[w.heap.size]? = some (.cells (fing f) 44 (0, 0))
  lb : W.heap[w.heap.size + 1]? = some (.cells none25 30 (0, 0))
  sm : W.heap[s]? = some (.cells (bs Z) 24 (0, 0))
theorem Cq.below {f : Fg} {Z : List Nat} {s : Nat} {w W W' : World} (h : Cq f Z s w W) (b : Below W.heap.size W W') : Cq f Z s w W' :=
  ⟨h.bel.trans (b.mono h.bel.size), (b.block _ (Array.getElem?_eq_some_iff.1 h.row).1).trans h.row, (b.block _ (Array.getElem?_eq_some_iff.1 h.lb).1).trans h.lb, (b.block _ (Array.getElem?_eq_some_iff.1 h.sm).1).trans h.sm⟩
set_option maxRecDepth 100000 in
set_option maxHeartbeats 2000000 in
theorem callR_any (f : Fg) (hln : f.L.length ≤ 1073741823) (w : World) (ht : Tr w) (hsz : 6 < w.heap.size) (hv0 : Ls f.v f.L w) :
    Calls Tryz.prog 20 #[.agg (fing f)] w fun e w' => e = .returned (.tuple #[.agg (lab (cH f) (cN f)), .int .i64 ((chkV f : Nat) : Int)]) ∧ Below w.heap.size w w' := by
  obtain ⟨W0, hW0⟩ : ∃ W0, (w.alloc (.cells (fing f) 44)).alloc (.cells none25 30) = W0 := ⟨_, rfl⟩
  have b0 : Below w.heap.size w W0 := by rw [← hW0]; exact ((Below.refl _ w).alloc (Nat.le_refl _) _).alloc (by simp) _
  have r0 : W0.heap[w.heap.size]? = some (.cells (fing f) 44 (0, 0)) := by rw [← hW0]; exact heap_alloc2_old _ _ _
  have l0 : W0.heap[w.heap.size + 1]? = some (.cells none25 30 (0, 0)) := by rw [← hW0]; exact heap_alloc2_new _ _ _
  have ld := run_ldF W0 w.heap.size f r0
  obtain ⟨T, hT⟩ : ∃ T, T = sT f := ⟨_, rfl⟩
  obtain ⟨E, hE⟩ : ∃ E, E = chkV f := ⟨_, rfl⟩
  have C0 := sayR_any f hln W0 (hv0.below b0)
  rw [← hT, ← hE] at C0
  have HC0 : Hid _ := C0
  have HTT : Hid (T = sT f ∧ E = chkV f) := ⟨hT, hE⟩
  have HW0 : Hid ((w.alloc (.cells (fing f) 44)).alloc (.cells none25 30) = W0) := hW0
  have H0 : Hid (Below w.heap.size w W0 ∧ W0.heap[w.heap.size]? = some (.cells (fing f) 44 (0, 0)) ∧ W0.heap[w.heap.size + 1]? = some (.cells none25 30 (0, 0))) := ⟨b0, r0, l0⟩
  have HTR : Hid (∀ W, Below w.heap.size w W → Tr W) := fun W h => ht.below h hsz
  have ld' : (loadR 44 (.pointer (some ⟨w.heap.size, 0, none⟩))).run Tryz.prog ((w.alloc (.cells (fing f) 44)).alloc (.cells #[.int .u8 0, .int .u8 0, .int .u8 0, .int .u8 0, .int .u8 0, .int .u8 0, .int .u8 0, .int .u8 0, .int .u8 0, .int .u8 0, .int .u8 0, .int .u8 0, .int .u8 0, .int .u8 0, .int .u8 0, .int .u8 0, .int .u8 0, .int .u8 0, .int .u8 0, .int .u8 0, .string ⟨#[]⟩] 30)) = .ok (.agg (fing f)) ((w.alloc (.cells (fing f) 44)).alloc (.cells #[.int .u8 0, .int .u8 0, .int .u8 0, .int .u8 0, .int .u8 0, .int .u8 0, .int .u8 0, .int .u8 0, .int .u8 0, .int .u8 0, .int .u8 0, .int .u8 0, .int .u8 0, .int .u8 0, .int .u8 0, .int .u8 0, .int .u8 0, .int .u8 0, .int .u8 0, .int .u8 0, .string ⟨#[]⟩] 30)) := by
    have h2 : (w.alloc (.cells (fing f) 44)).alloc (.cells #[.int .u8 0, .int .u8 0, .int .u8 0, .int .u8 0, .int .u8 0, .int .u8 0, .int .u8 0, .int .u8 0, .int .u8 0, .int .u8 0, .int .u8 0, .int .u8 0, .int .u8 0, .int .u8 0, .int .u8 0, .int .u8 0, .int .u8 0, .int .u8 0, .int .u8 0, .int .u8 0, .string ⟨#[]⟩] 30) = W0 := hW0
    rw [h2]
    exact ld
  rw [← hE]
  clear ld hW0 b0 r0 l0 hT hE C0 ht hsz hv0 hln
  go_enter Tryz.func20, Tryz.ntmps20
  go_wp2_with fail
  show Calls _ _ _ ((w.alloc (.cells (fing f) 44)).alloc (.cells none25 30)) _
  rw [HW0.out]
  refine Calls.mono HC0.out ?_
  rintro e W1 ⟨rfl, b1⟩
  have H1 : Hid (Below w.heap.size w W1 ∧ W1.heap[w.heap.size]? = some (.cells (fing f) 44 (0, 0)) ∧ W1.heap[w.heap.size + 1]? = some (.cells none25 30 (0, 0))) := ⟨H0.out.1.trans (b1.mono H0.out.1.size), (b1.block _ (Array.getElem?_eq_some_iff.1 H0.out.2.1).1).trans H0.out.2.1, (b1.block _ (Array.getElem?_eq_some_iff.1 H0.out.2.2).1).trans H0.out.2.2⟩
  clear HC0 b1 H0 ld' HW0
  by_cases h0 : E = 0
  · subst h0
    have hchk : chkV f = 0 := HTT.out.2.symm
    have hTs : T.size ≤ 71000 := by
      have ok := ok_of hchk
      have hX : (str (hexL f.sm)).size = 64 := by rw [str_size, hexL_len]; have := f.hl; omega
      have hns := okN_size f.nm ok.nm
      have hh := head_size ok
      rw [HTT.out.1, sT, if_pos hchk, sayT, app_size, app_size, app_size, app_size, hX]
      show (headT f).size + 8 + 64 + 14 + f.nm.size ≤ 71000
      omega
    obtain ⟨Z, hZ⟩ : ∃ Z, Z = sha (bl T) := ⟨_, rfl⟩
    obtain ⟨F, hF⟩ : ∃ F, F = cH f := ⟨_, rfl⟩
    have hFZ : F = Big.fold Z := by rw [hF, cH, if_pos hchk, hZ, HTT.out.1, sT, if_pos hchk]; rfl
    have hFl : F.length = 20 := by rw [hF]; exact cH_len f
    have hNN : cN f = f.nm := by rw [cN, if_pos hchk]
    have HFO : Hid (∀ W, Calls Tryz.prog 32 #[.agg (bs Z)] W fun e w' => e = .returned (.agg (bs F)) ∧ Below W.heap.size W w') := fun W => by
      have := Big.foldR_any Z (by rw [hZ]; exact sha_len _) (by rw [hZ]; exact sha_byt _) W
      rw [hFZ]
      exact this
    obtain ⟨c, W2, rcv, hby, hb2⟩ := run_cvb W1 T (by omega)
    have rcv' : (cvR (.string T)).run Tryz.prog W1 = .ok (.slice (some ⟨W1.heap.size, 0, none⟩) T.size c) W2 := rcv
    have H2 : Hid (Below w.heap.size w W2 ∧ W2.heap[w.heap.size]? = some (.cells (fing f) 44 (0, 0)) ∧ W2.heap[w.heap.size + 1]? = some (.cells none25 30 (0, 0))) := ⟨H1.out.1.trans (hb2.mono H1.out.1.size), (hb2.block _ (Array.getElem?_eq_some_iff.1 H1.out.2.1).1).trans H1.out.2.1, (hb2.block _ (Array.getElem?_eq_some_iff.1 H1.out.2.2).1).trans H1.out.2.2⟩
    have CO := ofR_tb (bl T) _ (by rw [bl_len]; omega) (bl_byt T) W2 (HTR.out W2 H2.out.1) hby
    rw [← hZ] at CO
    have HCO : Hid _ := CO
    have hZl : Z.length = 32 := by rw [hZ]; exact sha_len _
    have HZL : Hid (Z.length = 32) := hZl
    have HFL : Hid (F.length = 20) := hFl
    have HHN : Hid (cH f = F ∧ cN f = f.nm) := ⟨hF.symm, hNN⟩
    clear CO hZ hF hFZ hFl hNN rcv hby hb2 hTs hZl hchk
    go_wp2_with fail
    refine Calls.mono HCO.out ?_
    rintro e W3 ⟨rfl, b3⟩
    obtain ⟨W4, s4, r4, b4⟩ := layS W3 Z HZL.out
    have C4 : Hid (Cq f Z W3.heap.size w W4) := by
      have q1 : Below w.heap.size w W3 := H2.out.1.trans (b3.mono H2.out.1.size)
      have b34 := b3.trans (b4.mono b3.size)
      exact ⟨q1.trans (b4.mono q1.size), (b34.block _ (Array.getElem?_eq_some_iff.1 H2.out.2.1).1).trans H2.out.2.1, (b34.block _ (Array.getElem?_eq_some_iff.1 H2.out.2.2).1).trans H2.out.2.2, r4⟩
    clear HCO b3 b4 r4 H1 H2 rcv'
    go_wp2_with fail
    refine wp_region_vals (ops := rgc5) (V := Vc5 w.heap.size f.nm Z F) (S := Ks (Cq f Z W3.heap.size w) (fun W => Below w.heap.size w W ∧ W.heap[w.heap.size + 1]? = some (.cells (lab F f.nm) 30 (0, 0)))) (by kernel_rfl) (fun i o ho => (okR_at okRc5 ho).1) (fun i j o oj d ho hj q1 q2 => (okR_at okRc5 ho).2.2 j oj d hj q1 q2) (fun i o d ho q => (okR_at okRc5 ho).2.1 d q)
      (stepc5 _ W3.heap.size (w.heap.size + 1) w.heap.size f.nm Z F _ _ rfl rfl rfl
        (fun i hi l W h => h.mv i (of_decide_eq_true hi).2)
        (fun l W h hs hu hd => by
          have h5 := h.opn (by omega) hs hu
          exact (HFO.out W).mono fun e w' ⟨a, b⟩ => ⟨a, ⟨fun x => (by rw [set_ne _ _ _ (by omega), h5] at x; cases x), fun x => (by rw [set_ne _ _ _ (by omega), h5] at x; cases x), fun _ => (h.cst h5).below b⟩⟩)
        (fun l W h hs hu hd => ⟨W, run_ldS W W3.heap.size Z (h.cst (h.opn (by omega) hs hu)).sm HZL.out, h.mv 0 (by omega)⟩)
        (fun l W h hs hu hd => by
          have := (fing_cells (h.cst (h.opn (by omega) hs hu)).row).2.2.2.2.2
          exact ⟨W, by simp [go_sem, this], h.mv 3 (by omega)⟩)
        (fun l W h hs hu hd => ⟨W, run_buildR W F HFL.out f.nm, h.mv 4 (by omega)⟩)
        (fun l W h hs hu hd => by
          have h5 := un_false l 5 7 (by rw [hs]; kernel_rfl) (by omega) hu
          have hc := h.cst h5
          refine ⟨_, run_storeR25 W (w.heap.size + 1) z20 F ⟨#[]⟩ f.nm hc.lb rfl HFL.out, ⟨fun _ i hi => set_up _ _ _ ?_, fun _ => ⟨below_setRow hc.bel (by omega) _, setRow_heap _ _ _ _ _ _ hc.lb⟩, fun a => ?_⟩⟩
          · match i, hi with
            | 0, _ => exact hd 0 (by kernel_rfl)
            | 1, _ => exact hd 1 (by kernel_rfl)
            | 2, _ => exact hd 2 (by kernel_rfl)
            | 3, _ => exact hd 3 (by kernel_rfl)
            | 4, _ => exact hd 4 (by kernel_rfl)
          · rw [set_eq _ _ (by rw [hs]; decide +kernel)] at a; cases a))
      (ks_0 (C4.out.below (below_drew W4))) (fun wE hE => ?_)
    rw [putc5]
    dsimp only [Vc5]
    have HL : Hid (Below w.heap.size w wE ∧ wE.heap[w.heap.size + 1]? = some (.cells (lab F f.nm) 30 (0, 0))) := hE.fin (by kernel_rfl)
    clear hE s4
    go_wp2_with fail
    rw [HHN.out.1, HHN.out.2]
    exact bodyPost_ret (results_cell2 rfl _ _ (w.heap.size + 1) F f.nm HFL.out rfl HL.out.2) rfl ⟨rfl, HL.out.1⟩
  · have hchk : ¬ chkV f = 0 := by rw [← HTT.out.2]; exact h0
    have hNN : cN f = ⟨#[]⟩ := by rw [cN, if_neg hchk]
    have hHH : cH f = z20 := by rw [cH, if_neg hchk]
    have HHN : Hid (cH f = z20 ∧ cN f = ⟨#[]⟩) := ⟨hHH, hNN⟩
    have h0' : ¬ ((E : Int) = 0) := by omega
    have hbu := run_build0
    have st : (storeR 30 (.pointer (some ⟨w.heap.size + 1, 0, none⟩)) (.agg none25)).run Tryz.prog W1 = .ok () (W1.setRow (w.heap.size + 1) none25) := run_storeR25 W1 (w.heap.size + 1) z20 z20 ⟨#[]⟩ ⟨#[]⟩ H1.out.2.2 rfl rfl
    have HR : Hid ((W1.setRow (w.heap.size + 1) none25).heap[w.heap.size + 1]? = some (.cells none25 30 (0, 0))) := setRow_heap _ _ _ _ _ _ H1.out.2.2
    have HB : Hid (Below w.heap.size w (W1.setRow (w.heap.size + 1) none25)) := below_setRow H1.out.1 (Nat.le_succ _) _
    clear hchk hNN hHH
    go_wp2_with fail
    rw [HHN.out.1, HHN.out.2]
    exact bodyPost_ret (results_cell2 rfl _ _ (w.heap.size + 1) z20 ⟨#[]⟩ rfl rfl HR.out) rfl ⟨rfl, HB.out⟩
end Go.Proofs.YteajpimonenopaaGreatDoor

/- Output of any recipe, the document's. -/
namespace Go.Proofs.YteajpimonenopaaGreatDoor
open Go.RowKit Go.Shelf Go.Sort Go.Proofs.YteajpimonenopaaGreatDoor.Sha
theorem checkR_n (s : ByteArray) (E : Nat) (hE : E = okN s) (W : World) : ∃ F : Nat, Calls Tryz.prog 25 #[.string s] W fun e w' => e = .returned (.tuple #[.int .i64 (E : Int), .int .i64 (F : Int)]) ∧ Below W.heap.size W w' :=
  ⟨(checkN s).2, by rw [hE]; exact (ref_any s W).mono fun e w' h => ⟨h.1, by first | exact h.2 | (rw [h.2]; exact Below.refl _ _)⟩⟩
attribute [local go_sem ↓] to25s toBuild toBuildF toSuL
set_option maxRecDepth 100000 in
set_option maxHeartbeats 1000000 in
theorem outputR_c (o n : ByteArray) (Z : List Nat) (hZ : Z.length = 32) (bZ : Byt Z) (w : World) (ht : Tr w) (hsz : 6 < w.heap.size) :
    Calls Tryz.prog 13 #[.agg (bs Z), .string o, .string n] w fun e w' => e = .returned (.tuple #[.agg (lab (oH o n Z hZ bZ) (oN o n Z hZ bZ)), .int .i64 ((oE o n Z hZ bZ : Nat) : Int)]) ∧ Below w.heap.size w w' := by
  obtain ⟨W0, hW0⟩ : ∃ W0, (w.alloc (.cells (bs Z) 24)).alloc (.cells none25 30) = W0 := ⟨_, rfl⟩
  have b0 : Below w.heap.size w W0 := by rw [← hW0]; exact ((Below.refl _ w).alloc (Nat.le_refl _) _).alloc (by simp) _
  have H0 : Hid (Os Z w.heap.size (w.heap.size + 1) w W0) := ⟨b0, by rw [← hW0]; exact heap_alloc2_old _ _ _, by rw [← hW0]; exact heap_alloc2_new _ _ _⟩
  obtain ⟨E, hE⟩ : ∃ E, E = okN n := ⟨_, rfl⟩
  obtain ⟨E2, hE2⟩ : ∃ E, E = okN o := ⟨_, rfl⟩
  have C1 : Hid (∀ W, ∃ F : Nat, Calls Tryz.prog 25 #[.string n] W fun e w' => e = .returned (.tuple #[.int .i64 (E : Int), .int .i64 (F : Int)]) ∧ Below W.heap.size W w') := fun W => checkR_n n E hE W
  have C2 : Hid (∀ W, ∃ F : Nat, Calls Tryz.prog 25 #[.string o] W fun e w' => e = .returned (.tuple #[.int .i64 (E2 : Int), .int .i64 (F : Int)]) ∧ Below W.heap.size W w') := fun W => checkR_n o E2 hE2 W
  have HC : Hid (∀ (F : Fg) W, F.v = .slice none 0 0 → F.L = [] → Below w.heap.size w W → Calls Tryz.prog 20 #[.agg (fing F)] W fun e w' => e = .returned (.tuple #[.agg (lab (cH F) (cN F)), .int .i64 ((chkV F : Nat) : Int)]) ∧ Below W.heap.size W w') := fun F W hFv hFL hW => callR_any F (by rw [hFL]; simp) W (ht.below hW hsz) (Nat.lt_of_lt_of_le hsz hW.size) (by rw [hFv, hFL]; exact ls_nil W)
  have HW0 : Hid ((w.alloc (.cells (bs Z) 24)).alloc (.cells none25 30) = W0) := hW0
  have HE : Hid (E = okN n) := hE
  have HE2 : Hid (E2 = okN o) := hE2
  have hbu := run_build0
  clear hE hE2 hW0 b0 ht hsz
  obtain ⟨F1, C1'⟩ := C1.out W0
  have HC1 : Hid _ := C1'
  clear C1'
  go_enter Tryz.func13, Tryz.ntmps13
  go_wp2_with fail
  show Calls _ _ _ ((w.alloc (.cells (bs Z) 24)).alloc (.cells none25 30)) _
  rw [HW0.out]
  refine Calls.mono HC1.out ?_
  rintro e W1 ⟨rfl, b1⟩
  have H1 : Hid (Os Z w.heap.size (w.heap.size + 1) w W1) := H0.out.below b1
  clear b1 H0 HC1
  by_cases h0 : E = 0
  · subst h0
    obtain ⟨F2, C2'⟩ := C2.out W1
    have HC2 : Hid _ := C2'
    clear C2'
    go_wp2_with fail
    refine Calls.mono HC2.out ?_
    rintro e W2 ⟨rfl, b2⟩
    have H2 : Hid (Os Z w.heap.size (w.heap.size + 1) w W2) := H1.out.below b2
    clear b2 H1 HC2
    by_cases h2 : E2 = 0
    · subst h2
      have hns : n.size ≤ 211 := okN_size n HE.out.symm
      have hos : o.size ≤ 211 := okN_size o HE2.out.symm
      obtain ⟨nm, hnm⟩ : ∃ nm, nmO o n = nm := ⟨_, rfl⟩
      obtain ⟨F, hF⟩ : ∃ F, F = fgP o Z hZ bZ nm := ⟨_, rfl⟩
      have C3 : Hid _ := HC.out F W2 (by rw [hF]; rfl) (by rw [hF]; rfl) H2.out.bel
      have ld := run_ldS W2 w.heap.size Z H2.out.sum hZ
      have hfing : fing F = fcell 3 (.slice none 0 0) false o 0 Z nm := by rw [hF]; rfl
      have hbf : ∀ W, (buildF #[(0, .int .i64 3), (3, .string o), (5, .agg (bs Z)), (6, .string nm)]).run Tryz.prog W = .ok (.agg (fing F)) W := fun W => by rw [hfing]; exact run_build W 44 _ _ (bt3o Z hZ o nm)
      have HV : Hid (oH o n Z hZ bZ = cH F ∧ oN o n Z hZ bZ = cN F ∧ oE o n Z hZ bZ = chkV F) := by
        refine ⟨?_, ?_, ?_⟩
        · unfold oH; rw [if_pos HE.out.symm, if_pos HE2.out.symm, hnm, hF]
        · unfold oN; rw [if_pos HE.out.symm, if_pos HE2.out.symm, hnm, hF]
        · unfold oE; rw [if_pos HE.out.symm, if_pos HE2.out.symm, hnm, hF]
      have HL : Hid ((cH F).length = 20) := cH_len F
      have hq := hnm
      unfold nmO at hq
      clear hfing hF hnm
      by_cases hqo : o = outN
      · have hl3 : o.toList = [111, 117, 116] := by rw [hqo]; exact outN_l
        rw [if_pos hqo] at hq
        clear hqo
        subst hq
        go_wp2_with fail
        refine Calls.mono C3.out ?_
        rintro e W3 ⟨rfl, b3⟩
        have H3 : Os Z w.heap.size (w.heap.size + 1) w W3 := H2.out.below b3
        have st := run_storeR25 W3 (w.heap.size + 1) z20 (cH F) ⟨#[]⟩ (cN F) H3.row rfl HL.out
        have HR : Hid ((W3.setRow (w.heap.size + 1) (lab (cH F) (cN F))).heap[w.heap.size + 1]? = some (.cells (lab (cH F) (cN F)) 30 (0, 0))) := setRow_heap _ _ _ _ _ _ H3.row
        have HB : Hid (Below w.heap.size w (W3.setRow (w.heap.size + 1) (lab (cH F) (cN F)))) := below_setRow H3.bel (Nat.le_succ _) _
        clear C3 b3 H3 ld hbf
        go_wp2_with fail
        rw [HV.out.1, HV.out.2.1, HV.out.2.2]
        exact bodyPost_ret (results_cell2 rfl _ _ (w.heap.size + 1) (cH F) (cN F) HL.out rfl HR.out) rfl ⟨rfl, HB.out⟩
      · have hl3 : ¬ (o.toList = [111, 117, 116]) := fun h => hqo (toList_inj.1 (h.trans outN_l.symm))
        have hl4 : (o.toList == [111, 117, 116]) = false := by simpa using hl3
        rw [if_neg hqo] at hq
        have he1 : n ++ (⟨#[45]⟩ : ByteArray) ++ o = nm := by rw [← hq, ByteArray.append_assoc]; rfl
        obtain ⟨nx, hnx⟩ : ∃ nx, n ++ (⟨#[45]⟩ : ByteArray) = nx := ⟨_, rfl⟩
        have hnxs : nx.size = n.size + 1 := by rw [← hnx, app_size]; rfl
        rw [hnx] at he1
        have z1 : ¬ (9223372036854775807 < n.size + 1) := by omega
        have z2 : ¬ (9223372036854775807 < nx.size + o.size) := by omega
        clear hnxs
        clear hqo hq
        go_wp2_with fail
        refine Calls.mono C3.out ?_
        rintro e W3 ⟨rfl, b3⟩
        have H3 : Os Z w.heap.size (w.heap.size + 1) w W3 := H2.out.below b3
        have st := run_storeR25 W3 (w.heap.size + 1) z20 (cH F) ⟨#[]⟩ (cN F) H3.row rfl HL.out
        have HR : Hid ((W3.setRow (w.heap.size + 1) (lab (cH F) (cN F))).heap[w.heap.size + 1]? = some (.cells (lab (cH F) (cN F)) 30 (0, 0))) := setRow_heap _ _ _ _ _ _ H3.row
        have HB : Hid (Below w.heap.size w (W3.setRow (w.heap.size + 1) (lab (cH F) (cN F)))) := below_setRow H3.bel (Nat.le_succ _) _
        clear C3 b3 H3 ld hbf
        go_wp2_with fail
        rw [HV.out.1, HV.out.2.1, HV.out.2.2]
        exact bodyPost_ret (results_cell2 rfl _ _ (w.heap.size + 1) (cH F) (cN F) HL.out rfl HR.out) rfl ⟨rfl, HB.out⟩
    · have h2' : ¬ ((E2 : Int) = 0) := by omega
      have HV : Hid (oH o n Z hZ bZ = z20 ∧ oN o n Z hZ bZ = ⟨#[]⟩ ∧ oE o n Z hZ bZ = E2) := by
        have q : ¬ okN o = 0 := by rw [← HE2.out]; exact h2
        refine ⟨?_, ?_, ?_⟩
        · unfold oH; rw [if_pos HE.out.symm, if_neg q]
        · unfold oN; rw [if_pos HE.out.symm, if_neg q]
        · unfold oE; rw [if_pos HE.out.symm, if_neg q, HE2.out]
      have st : (storeR 30 (.pointer (some ⟨w.heap.size + 1, 0, none⟩)) (.agg none25)).run Tryz.prog W2 = .ok () (W2.setRow (w.heap.size + 1) none25) := run_storeR25 W2 (w.heap.size + 1) z20 z20 ⟨#[]⟩ ⟨#[]⟩ H2.out.row rfl rfl
      have HR : Hid ((W2.setRow (w.heap.size + 1) none25).heap[w.heap.size + 1]? = some (.cells none25 30 (0, 0))) := setRow_heap _ _ _ _ _ _ H2.out.row
      have HB : Hid (Below w.heap.size w (W2.setRow (w.heap.size + 1) none25)) := below_setRow H2.out.bel (Nat.le_succ _) _
      go_wp2_with fail
      rw [HV.out.1, HV.out.2.1, HV.out.2.2]
      exact bodyPost_ret (results_cell2 rfl _ _ (w.heap.size + 1) z20 ⟨#[]⟩ rfl rfl HR.out) rfl ⟨rfl, HB.out⟩
  · have h0' : ¬ ((E : Int) = 0) := by omega
    have HV : Hid (oH o n Z hZ bZ = z20 ∧ oN o n Z hZ bZ = ⟨#[]⟩ ∧ oE o n Z hZ bZ = E) := by
      have q : ¬ okN n = 0 := by rw [← HE.out]; exact h0
      refine ⟨?_, ?_, ?_⟩
      · unfold oH; rw [if_neg q]
      · unfold oN; rw [if_neg q]
      · unfold oE; rw [if_neg q, HE.out]
    have st : (storeR 30 (.pointer (some ⟨w.heap.size + 1, 0, none⟩)) (.agg none25)).run Tryz.prog W1 = .ok () (W1.setRow (w.heap.size + 1) none25) := run_storeR25 W1 (w.heap.size + 1) z20 z20 ⟨#[]⟩ ⟨#[]⟩ H1.out.row rfl rfl
    have HR : Hid ((W1.setRow (w.heap.size + 1) none25).heap[w.heap.size + 1]? = some (.cells none25 30 (0, 0))) := setRow_heap _ _ _ _ _ _ H1.out.row
    have HB : Hid (Below w.heap.size w (W1.setRow (w.heap.size + 1) none25)) := below_setRow H1.out.bel (Nat.le_succ _) _
    go_wp2_with fail
    rw [HV.out.1, HV.out.2.1, HV.out.2.2]
    exact bodyPost_ret (results_cell2 rfl _ _ (w.heap.size + 1) z20 ⟨#[]⟩ rfl rfl HR.out) rfl ⟨rfl, HB.out⟩
end Go.Proofs.YteajpimonenopaaGreatDoor

/- Text, Source, Member, Fixed, the document's. -/
namespace Go.Proofs.YteajpimonenopaaGreatDoor
open Go.RowKit Go.Shelf Go.Sort Go.Proofs.YteajpimonenopaaGreatDoor.Sha
attribute [local go_sem ↓] to25s toBuildF toSuL toSs toCv
set_option maxRecDepth 100000 in
set_option maxHeartbeats 1000000 in
theorem textR_any (f : Fg) (d : List Nat) (hd : d.length ≤ 140737488351232) (hdb : Byt d) (dv : Value) (n : ByteArray) (w : World) (ht : Tr w) (hsz : 6 < w.heap.size) (hln : f.L.length ≤ 1073741823) (hv0 : Ls f.v f.L w) (hy : YteajpimonenopaaGreatDoor.Byl dv d w) :
    Calls Tryz.prog 6 #[.string n, dv, f.v] w fun e w' => e = .returned (.tuple #[.agg (lab (cH (fgT f (sha d) (sha_len d) (sha_byt d) n)) (cN (fgT f (sha d) (sha_len d) (sha_byt d) n))), .int .i64 ((chkV (fgT f (sha d) (sha_len d) (sha_byt d) n) : Nat) : Int)]) ∧ Below w.heap.size w w' := by
  obtain ⟨q, c, hvv, -, -⟩ := hv0.form
  obtain ⟨W0, hW0⟩ : ∃ W0, w.alloc (.cells none25 30) = W0 := ⟨_, rfl⟩
  have b0 : Below w.heap.size w W0 := by rw [← hW0]; exact (Below.refl _ w).alloc (Nat.le_refl _) _
  have r0 : W0.heap[w.heap.size]? = some (.cells none25 30 (0, 0)) := by rw [← hW0]; exact heap_alloc_new w _
  obtain ⟨Z, hZ⟩ : ∃ Z, Z = sha d := ⟨_, rfl⟩
  have HZL : Hid (Z.length = 32) := by show _ = _; rw [hZ]; exact sha_len d
  have C0 : Hid (Calls Tryz.prog 19 #[dv] W0 fun e w' => e = .returned (.agg (bs Z)) ∧ Below W0.heap.size W0 w') := by rw [hZ]; exact ofR_tb d dv hd hdb W0 (ht.below b0 hsz) (hy.below b0)
  obtain ⟨F, hF⟩ : ∃ F, F = fgT f (sha d) (sha_len d) (sha_byt d) n := ⟨_, rfl⟩
  have hfing : fing F = fcell 1 (.slice q f.L.length c) false ⟨#[]⟩ 0 Z n := by rw [hF, hZ, ← hvv]; simp only [fing, fgT, fcell]
  have hbu : ∀ W, (buildF #[(0, .int .i64 1), (1, .slice q f.L.length c), (5, .agg (bs Z)), (6, .string n)]).run Tryz.prog W = .ok (.agg (fing F)) W := fun W => by rw [hfing]; exact run_build W 44 _ _ (bt1 Z (by rw [hZ]; exact sha_len d) q f.L.length c n)
  have HC : Hid (∀ W, Below w.heap.size w W → Calls Tryz.prog 20 #[.agg (fing F)] W fun e w' => e = .returned (.tuple #[.agg (lab (cH F) (cN F)), .int .i64 ((chkV F : Nat) : Int)]) ∧ Below W.heap.size W w') := fun W hW => callR_any F (by rw [hF]; exact hln) W (ht.below hW hsz) (Nat.lt_of_lt_of_le hsz hW.size) (by rw [hF]; exact hv0.below hW)
  rw [← hF, hvv]
  have HL : Hid ((cH F).length = 20) := cH_len F
  have HW0 : Hid (w.alloc (.cells none25 30) = W0) := hW0
  have H0 : Hid (Below w.heap.size w W0 ∧ W0.heap[w.heap.size]? = some (.cells none25 30 (0, 0))) := ⟨b0, r0⟩
  clear hW0 b0 r0 hZ hF hfing hvv ht hsz hln hv0 hy
  go_enter Tryz.func6, Tryz.ntmps6
  go_wp2_with fail
  show Calls _ _ _ (w.alloc (.cells none25 30)) _
  rw [HW0.out]
  refine Calls.mono C0.out ?_
  rintro e W1 ⟨rfl, b1⟩
  have H1 : Hid (Below w.heap.size w W1 ∧ W1.heap[w.heap.size]? = some (.cells none25 30 (0, 0))) := ⟨H0.out.1.trans (b1.mono H0.out.1.size), (b1.block _ (Array.getElem?_eq_some_iff.1 H0.out.2).1).trans H0.out.2⟩
  obtain ⟨W4, s4, r4, b4⟩ := layS W1 Z HZL.out
  have H4 : Hid (Below w.heap.size w W4 ∧ W4.heap[w.heap.size]? = some (.cells none25 30 (0, 0))) := ⟨H1.out.1.trans (b4.mono H1.out.1.size), (b4.block _ (Array.getElem?_eq_some_iff.1 H1.out.2).1).trans H1.out.2⟩
  have l4 := run_ldS W4 W1.heap.size Z r4 HZL.out
  have C1 : Hid _ := HC.out W4 H4.out.1
  clear C0 b1 H0 H1 HC b4 r4
  go_wp2_with fail
  refine Calls.mono C1.out ?_
  rintro e W2 ⟨rfl, b2⟩
  have r2 : W2.heap[w.heap.size]? = some (.cells none25 30 (0, 0)) := (b2.block _ (Array.getElem?_eq_some_iff.1 H4.out.2).1).trans H4.out.2
  have st := run_storeR25 W2 w.heap.size z20 (cH F) ⟨#[]⟩ (cN F) r2 rfl HL.out
  have HR : Hid ((W2.setRow w.heap.size (lab (cH F) (cN F))).heap[w.heap.size]? = some (.cells (lab (cH F) (cN F)) 30 (0, 0))) := setRow_heap _ _ _ _ _ _ r2
  have HB : Hid (Below w.heap.size w (W2.setRow w.heap.size (lab (cH F) (cN F)))) := below_setRow (H4.out.1.trans (b2.mono H4.out.1.size)) (Nat.le_refl _) _
  clear C1 b2 H4 r2 hbu s4 l4
  go_wp2_with fail
  exact bodyPost_ret (results_cell2 rfl _ _ w.heap.size (cH F) (cN F) HL.out rfl HR.out) rfl ⟨rfl, HB.out⟩
set_option maxRecDepth 100000 in
set_option maxHeartbeats 1000000 in
theorem sourceR_any (f : Fg) (sf : Bool) (Z : List Nat) (hZ : Z.length = 32) (bZ : Byt Z) (n : ByteArray) (w : World) (ht : Tr w) (hsz : 6 < w.heap.size) (hln : f.L.length ≤ 1073741823) (hv0 : Ls f.v f.L w) :
    Calls Tryz.prog 8 #[.string n, .agg (bs Z), f.v, .bool sf] w fun e w' => e = .returned (.tuple #[.agg (lab (cH (fgS f sf Z hZ bZ n)) (cN (fgS f sf Z hZ bZ n))), .int .i64 ((chkV (fgS f sf Z hZ bZ n) : Nat) : Int)]) ∧ Below w.heap.size w w' := by
  obtain ⟨q, c, hvv, -, -⟩ := hv0.form
  obtain ⟨W0, hW0⟩ : ∃ W0, (w.alloc (.cells (bs Z) 24)).alloc (.cells none25 30) = W0 := ⟨_, rfl⟩
  have b0 : Below w.heap.size w W0 := by rw [← hW0]; exact ((Below.refl _ w).alloc (Nat.le_refl _) _).alloc (by simp) _
  have H0 : Hid (Os Z w.heap.size (w.heap.size + 1) w W0) := ⟨b0, by rw [← hW0]; exact heap_alloc2_old _ _ _, by rw [← hW0]; exact heap_alloc2_new _ _ _⟩
  obtain ⟨F, hF⟩ : ∃ F, F = fgS f sf Z hZ bZ n := ⟨_, rfl⟩
  have hfing : fing F = fcell 2 (.slice q f.L.length c) sf ⟨#[]⟩ 0 Z n := by rw [hF, ← hvv]; rfl
  have hbu : ∀ W, (buildF #[(0, .int .i64 2), (1, .slice q f.L.length c), (2, .bool sf), (5, .agg (bs Z)), (6, .string n)]).run Tryz.prog W = .ok (.agg (fing F)) W := fun W => by rw [hfing]; exact run_build W 44 _ _ (bt2 Z hZ q f.L.length c sf n)
  have C1 : Hid _ := callR_any F (by rw [hF]; exact hln) W0 (ht.below b0 hsz) (Nat.lt_of_lt_of_le hsz b0.size) (by rw [hF]; exact hv0.below b0)
  rw [← hF, hvv]
  have HL : Hid ((cH F).length = 20) := cH_len F
  have ls := run_ldS W0 w.heap.size Z H0.out.sum hZ
  have HW0 : Hid ((w.alloc (.cells (bs Z) 24)).alloc (.cells none25 30) = W0) := hW0
  have ls' : (loadR 24 (.pointer (some ⟨w.heap.size, 0, none⟩))).run Tryz.prog ((w.alloc (.cells (bs Z) 24)).alloc (.cells #[.int .u8 0, .int .u8 0, .int .u8 0, .int .u8 0, .int .u8 0, .int .u8 0, .int .u8 0, .int .u8 0, .int .u8 0, .int .u8 0, .int .u8 0, .int .u8 0, .int .u8 0, .int .u8 0, .int .u8 0, .int .u8 0, .int .u8 0, .int .u8 0, .int .u8 0, .int .u8 0, .string ⟨#[]⟩] 30)) = .ok (.agg (bs Z)) ((w.alloc (.cells (bs Z) 24)).alloc (.cells #[.int .u8 0, .int .u8 0, .int .u8 0, .int .u8 0, .int .u8 0, .int .u8 0, .int .u8 0, .int .u8 0, .int .u8 0, .int .u8 0, .int .u8 0, .int .u8 0, .int .u8 0, .int .u8 0, .int .u8 0, .int .u8 0, .int .u8 0, .int .u8 0, .int .u8 0, .int .u8 0, .string ⟨#[]⟩] 30)) := by
    have h2 : (w.alloc (.cells (bs Z) 24)).alloc (.cells #[.int .u8 0, .int .u8 0, .int .u8 0, .int .u8 0, .int .u8 0, .int .u8 0, .int .u8 0, .int .u8 0, .int .u8 0, .int .u8 0, .int .u8 0, .int .u8 0, .int .u8 0, .int .u8 0, .int .u8 0, .int .u8 0, .int .u8 0, .int .u8 0, .int .u8 0, .int .u8 0, .string ⟨#[]⟩] 30) = W0 := hW0
    rw [h2]
    exact ls
  clear hW0 b0 hF hfing hvv ht hsz hln hv0 ls
  go_enter Tryz.func8, Tryz.ntmps8
  go_wp2_with fail
  show Calls _ _ _ ((w.alloc (.cells (bs Z) 24)).alloc (.cells none25 30)) _
  rw [HW0.out]
  refine Calls.mono C1.out ?_
  rintro e W2 ⟨rfl, b2⟩
  have H2 : Os Z w.heap.size (w.heap.size + 1) w W2 := H0.out.below b2
  have st := run_storeR25 W2 (w.heap.size + 1) z20 (cH F) ⟨#[]⟩ (cN F) H2.row rfl HL.out
  have HR : Hid ((W2.setRow (w.heap.size + 1) (lab (cH F) (cN F))).heap[w.heap.size + 1]? = some (.cells (lab (cH F) (cN F)) 30 (0, 0))) := setRow_heap _ _ _ _ _ _ H2.row
  have HB : Hid (Below w.heap.size w (W2.setRow (w.heap.size + 1) (lab (cH F) (cN F)))) := below_setRow H2.bel (Nat.le_succ _) _
  clear C1 b2 H2 H0 hbu ls'
  go_wp2_with fail
  exact bodyPost_ret (results_cell2 rfl _ _ (w.heap.size + 1) (cH F) (cN F) HL.out rfl HR.out) rfl ⟨rfl, HB.out⟩
set_option maxRecDepth 100000 in
set_option maxHeartbeats 1000000 in
theorem memberR_any (ix : Int) (hi : -9223372036854775808 ≤ ix ∧ ix ≤ 9223372036854775807) (Z : List Nat) (hZ : Z.length = 32) (bZ : Byt Z) (n : ByteArray) (w : World) (ht : Tr w) (hsz : 6 < w.heap.size) :
    Calls Tryz.prog 15 #[.agg (bs Z), .int .i64 ix, .string n] w fun e w' => e = .returned (.tuple #[.agg (lab (cH (fgM ix hi Z hZ bZ n)) (cN (fgM ix hi Z hZ bZ n))), .int .i64 ((chkV (fgM ix hi Z hZ bZ n) : Nat) : Int)]) ∧ Below w.heap.size w w' := by
  obtain ⟨W0, hW0⟩ : ∃ W0, (w.alloc (.cells (bs Z) 24)).alloc (.cells none25 30) = W0 := ⟨_, rfl⟩
  have b0 : Below w.heap.size w W0 := by rw [← hW0]; exact ((Below.refl _ w).alloc (Nat.le_refl _) _).alloc (by simp) _
  have H0 : Hid (Os Z w.heap.size (w.heap.size + 1) w W0) := ⟨b0, by rw [← hW0]; exact heap_alloc2_old _ _ _, by rw [← hW0]; exact heap_alloc2_new _ _ _⟩
  obtain ⟨F, hF⟩ : ∃ F, F = fgM ix hi Z hZ bZ n := ⟨_, rfl⟩
  have hfing : fing F = fcell 4 (.slice none 0 0) false ⟨#[]⟩ ix Z n := by rw [hF]; rfl
  have hbu : ∀ W, (buildF #[(0, .int .i64 4), (4, .int .i64 ix), (5, .agg (bs Z)), (6, .string n)]).run Tryz.prog W = .ok (.agg (fing F)) W := fun W => by rw [hfing]; exact run_build W 44 _ _ (bt4 Z hZ ix n)
  have C1 : Hid _ := callR_any F (by rw [hF]; simp [fgM]) W0 (ht.below b0 hsz) (Nat.lt_of_lt_of_le hsz b0.size) (by rw [hF]; exact ls_nil W0)
  rw [← hF]
  have HL : Hid ((cH F).length = 20) := cH_len F
  have ls := run_ldS W0 w.heap.size Z H0.out.sum hZ
  have HW0 : Hid ((w.alloc (.cells (bs Z) 24)).alloc (.cells none25 30) = W0) := hW0
  have ls' : (loadR 24 (.pointer (some ⟨w.heap.size, 0, none⟩))).run Tryz.prog ((w.alloc (.cells (bs Z) 24)).alloc (.cells #[.int .u8 0, .int .u8 0, .int .u8 0, .int .u8 0, .int .u8 0, .int .u8 0, .int .u8 0, .int .u8 0, .int .u8 0, .int .u8 0, .int .u8 0, .int .u8 0, .int .u8 0, .int .u8 0, .int .u8 0, .int .u8 0, .int .u8 0, .int .u8 0, .int .u8 0, .int .u8 0, .string ⟨#[]⟩] 30)) = .ok (.agg (bs Z)) ((w.alloc (.cells (bs Z) 24)).alloc (.cells #[.int .u8 0, .int .u8 0, .int .u8 0, .int .u8 0, .int .u8 0, .int .u8 0, .int .u8 0, .int .u8 0, .int .u8 0, .int .u8 0, .int .u8 0, .int .u8 0, .int .u8 0, .int .u8 0, .int .u8 0, .int .u8 0, .int .u8 0, .int .u8 0, .int .u8 0, .int .u8 0, .string ⟨#[]⟩] 30)) := by
    have h2 : (w.alloc (.cells (bs Z) 24)).alloc (.cells #[.int .u8 0, .int .u8 0, .int .u8 0, .int .u8 0, .int .u8 0, .int .u8 0, .int .u8 0, .int .u8 0, .int .u8 0, .int .u8 0, .int .u8 0, .int .u8 0, .int .u8 0, .int .u8 0, .int .u8 0, .int .u8 0, .int .u8 0, .int .u8 0, .int .u8 0, .int .u8 0, .string ⟨#[]⟩] 30) = W0 := hW0
    rw [h2]
    exact ls
  clear hW0 b0 hF hfing ht hsz ls
  go_enter Tryz.func15, Tryz.ntmps15
  go_wp2_with fail
  show Calls _ _ _ ((w.alloc (.cells (bs Z) 24)).alloc (.cells none25 30)) _
  rw [HW0.out]
  refine Calls.mono C1.out ?_
  rintro e W2 ⟨rfl, b2⟩
  have H2 : Os Z w.heap.size (w.heap.size + 1) w W2 := H0.out.below b2
  have st := run_storeR25 W2 (w.heap.size + 1) z20 (cH F) ⟨#[]⟩ (cN F) H2.row rfl HL.out
  have HR : Hid ((W2.setRow (w.heap.size + 1) (lab (cH F) (cN F))).heap[w.heap.size + 1]? = some (.cells (lab (cH F) (cN F)) 30 (0, 0))) := setRow_heap _ _ _ _ _ _ H2.row
  have HB : Hid (Below w.heap.size w (W2.setRow (w.heap.size + 1) (lab (cH F) (cN F)))) := below_setRow H2.bel (Nat.le_succ _) _
  clear C1 b2 H2 H0 hbu ls'
  go_wp2_with fail
  exact bodyPost_ret (results_cell2 rfl _ _ (w.heap.size + 1) (cH F) (cN F) HL.out rfl HR.out) rfl ⟨rfl, HB.out⟩
set_option maxRecDepth 100000 in
set_option maxHeartbeats 1000000 in
theorem fixedR_f (Z : List Nat) (hZ : Z.length = 32) (bZ : Byt Z) (n : ByteArray) (w : World) (ht : Tr w) (hsz : 6 < w.heap.size) :
    Calls Tryz.prog 11 #[.string n, .agg (bs Z), .bool false] w fun e w' => e = .returned (.tuple #[.agg (lab (cH (fgS fgN false Z hZ bZ n)) (cN (fgS fgN false Z hZ bZ n))), .int .i64 ((chkV (fgS fgN false Z hZ bZ n) : Nat) : Int)]) ∧ Below w.heap.size w w' := by
  obtain ⟨W0, hW0⟩ : ∃ W0, (w.alloc (.cells (bs Z) 24)).alloc (.cells none25 30) = W0 := ⟨_, rfl⟩
  have b0 : Below w.heap.size w W0 := by rw [← hW0]; exact ((Below.refl _ w).alloc (Nat.le_refl _) _).alloc (by simp) _
  have H0 : Hid (Os Z w.heap.size (w.heap.size + 1) w W0) := ⟨b0, by rw [← hW0]; exact heap_alloc2_old _ _ _, by rw [← hW0]; exact heap_alloc2_new _ _ _⟩
  obtain ⟨F, hF⟩ : ∃ F, F = fgS fgN false Z hZ bZ n := ⟨_, rfl⟩
  have C1 := sourceR_any fgN false Z hZ bZ n W0 (ht.below b0 hsz) (Nat.lt_of_lt_of_le hsz b0.size) (by simp [fgN]) (ls_nil W0)
  rw [← hF] at C1
  have HC1 : Hid _ := C1
  rw [← hF]
  have HL : Hid ((cH F).length = 20) := cH_len F
  have ls := run_ldS W0 w.heap.size Z H0.out.sum hZ
  have HW0 : Hid ((w.alloc (.cells (bs Z) 24)).alloc (.cells none25 30) = W0) := hW0
  have ls' : (loadR 24 (.pointer (some ⟨w.heap.size, 0, none⟩))).run Tryz.prog ((w.alloc (.cells (bs Z) 24)).alloc (.cells #[.int .u8 0, .int .u8 0, .int .u8 0, .int .u8 0, .int .u8 0, .int .u8 0, .int .u8 0, .int .u8 0, .int .u8 0, .int .u8 0, .int .u8 0, .int .u8 0, .int .u8 0, .int .u8 0, .int .u8 0, .int .u8 0, .int .u8 0, .int .u8 0, .int .u8 0, .int .u8 0, .string ⟨#[]⟩] 30)) = .ok (.agg (bs Z)) ((w.alloc (.cells (bs Z) 24)).alloc (.cells #[.int .u8 0, .int .u8 0, .int .u8 0, .int .u8 0, .int .u8 0, .int .u8 0, .int .u8 0, .int .u8 0, .int .u8 0, .int .u8 0, .int .u8 0, .int .u8 0, .int .u8 0, .int .u8 0, .int .u8 0, .int .u8 0, .int .u8 0, .int .u8 0, .int .u8 0, .int .u8 0, .string ⟨#[]⟩] 30)) := by
    have h2 : (w.alloc (.cells (bs Z) 24)).alloc (.cells #[.int .u8 0, .int .u8 0, .int .u8 0, .int .u8 0, .int .u8 0, .int .u8 0, .int .u8 0, .int .u8 0, .int .u8 0, .int .u8 0, .int .u8 0, .int .u8 0, .int .u8 0, .int .u8 0, .int .u8 0, .int .u8 0, .int .u8 0, .int .u8 0, .int .u8 0, .int .u8 0, .string ⟨#[]⟩] 30) = W0 := hW0
    rw [h2]
    exact ls
  clear hW0 b0 hF ht hsz ls C1
  go_enter Tryz.func11, Tryz.ntmps11
  go_wp2_with fail
  show Calls _ _ _ ((w.alloc (.cells (bs Z) 24)).alloc (.cells none25 30)) _
  rw [HW0.out]
  refine Calls.mono HC1.out ?_
  rintro e W2 ⟨rfl, b2⟩
  have H2 : Os Z w.heap.size (w.heap.size + 1) w W2 := H0.out.below b2
  have st := run_storeR25 W2 (w.heap.size + 1) z20 (cH F) ⟨#[]⟩ (cN F) H2.row rfl HL.out
  have HR : Hid ((W2.setRow (w.heap.size + 1) (lab (cH F) (cN F))).heap[w.heap.size + 1]? = some (.cells (lab (cH F) (cN F)) 30 (0, 0))) := setRow_heap _ _ _ _ _ _ H2.row
  have HB : Hid (Below w.heap.size w (W2.setRow (w.heap.size + 1) (lab (cH F) (cN F)))) := below_setRow H2.bel (Nat.le_succ _) _
  clear HC1 b2 H2 H0 ls'
  go_wp2_with fail
  exact bodyPost_ret (results_cell2 rfl _ _ (w.heap.size + 1) (cH F) (cN F) HL.out rfl HR.out) rfl ⟨rfl, HB.out⟩
set_option maxRecDepth 100000 in
set_option maxHeartbeats 1000000 in
theorem fixedR_t (Z : List Nat) (hZ : Z.length = 32) (bZ : Byt Z) (n : ByteArray) (w : World) (ht : Tr w) (hsz : 6 < w.heap.size) :
    Calls Tryz.prog 11 #[.string n, .agg (bs Z), .bool true] w fun e w' => e = .returned (.tuple #[.agg (lab (cH (fgO (fixZ Z) (sha_len _) (sha_byt _) n)) (cN (fgO (fixZ Z) (sha_len _) (sha_byt _) n))), .int .i64 ((chkV (fgO (fixZ Z) (sha_len _) (sha_byt _) n) : Nat) : Int)]) ∧ Below w.heap.size w w' := by
  obtain ⟨W0, hW0⟩ : ∃ W0, (w.alloc (.cells (bs Z) 24)).alloc (.cells none25 30) = W0 := ⟨_, rfl⟩
  have b0 : Below w.heap.size w W0 := by rw [← hW0]; exact ((Below.refl _ w).alloc (Nat.le_refl _) _).alloc (by simp) _
  have H0 : Hid (Os Z w.heap.size (w.heap.size + 1) w W0) := ⟨b0, by rw [← hW0]; exact heap_alloc2_old _ _ _, by rw [← hW0]; exact heap_alloc2_new _ _ _⟩
  have HT : Hid (∀ W, Below w.heap.size w W → Tr W ∧ 6 < W.heap.size) := fun W h => ⟨ht.below h hsz, Nat.lt_of_lt_of_le hsz h.size⟩
  have C0 : Hid _ := hexR_any Z bZ (by rw [hZ]; omega) _ W0 (byl_sum H0.out.sum hZ)
  obtain ⟨X, hX⟩ : ∃ X, X = str (hexL Z) := ⟨_, rfl⟩
  have hXs : X.size = 64 := by rw [hX, str_size, hexL_len, hZ]
  obtain ⟨Y, hY⟩ : ∃ Y, Y = sha (bl (fixT Z)) := ⟨_, rfl⟩
  have hYl : Y.length = 32 := by rw [hY]; exact sha_len _
  obtain ⟨T, hT⟩ : ∃ T, fx17 ++ X ++ colw = T := ⟨_, rfl⟩
  have hTT : T = fixT Z := by rw [← hT, hX]; rfl
  have hTs : T.size = 82 := by rw [hTT]; exact fixT_size Z hZ
  have C0' : Hid (Calls Tryz.prog 23 #[.slice (some ⟨w.heap.size, 0, none⟩) 32 32] W0 fun e w' => e = .returned (.string X) ∧ Below W0.heap.size W0 w') := by rw [hX]; exact C0.out
  have HO : Hid (∀ W v, Tr W → YteajpimonenopaaGreatDoor.Byl v (bl T) W → Calls Tryz.prog 19 #[v] W fun e w' => e = .returned (.agg (bs Y)) ∧ Below W.heap.size W w') := fun W v h1 h2 => by
    have := ofR_tb (bl T) v (by rw [bl_len]; omega) (bl_byt T) W h1 h2
    rw [hTT, ← hY] at this
    exact this
  obtain ⟨F, hF⟩ : ∃ F, F = fgO (fixZ Z) (sha_len _) (sha_byt _) n := ⟨_, rfl⟩
  have hfing : fing F = fcell 3 (.slice none 0 0) false outN 0 Y n := by rw [hF, hY]; simp only [fing, fgO, fcell, fixZ]
  have hbu : ∀ W, (buildF #[(0, .int .i64 3), (3, .string ⟨#[111, 117, 116]⟩), (5, .agg (bs Y)), (6, .string n)]).run Tryz.prog W = .ok (.agg (fing F)) W := fun W => by rw [hfing]; exact run_build W 44 _ _ (bt3 Y hYl n)
  have HC : Hid (∀ W, Below w.heap.size w W → Calls Tryz.prog 20 #[.agg (fing F)] W fun e w' => e = .returned (.tuple #[.agg (lab (cH F) (cN F)), .int .i64 ((chkV F : Nat) : Int)]) ∧ Below W.heap.size W w') := fun W hW => callR_any F (by rw [hF]; simp [fgO]) W (HT.out W hW).1 (HT.out W hW).2 (by rw [hF]; exact ls_nil W)
  rw [← hF]
  have HL : Hid ((cH F).length = 20) := cH_len F
  have HW0 : Hid ((w.alloc (.cells (bs Z) 24)).alloc (.cells none25 30) = W0) := hW0
  have z1 : ¬ (9223372036854775807 < 17 + X.size) := by omega
  have z2 : ¬ (9223372036854775807 < (fx17 ++ X).size + 1) := by rw [app_size, hXs]; show ¬ (9223372036854775807 < 17 + 64 + 1); omega
  have hT' : (fx17 ++ X) ++ ⟨#[58]⟩ = T := hT
  have HTS : Hid (T.size = 82) := hTs
  have HYL : Hid (Y.length = 32) := hYl
  clear hW0 b0 hF hfing ht hsz C0 hX hY hTT hTs hYl hT
  obtain ⟨XA, hXA⟩ : ∃ XA, (⟨#[102, 105, 120, 101, 100, 58, 111, 117, 116, 58, 115, 104, 97, 50, 53, 54, 58]⟩ : ByteArray) ++ X = XA := ⟨_, rfl⟩
  have z2' : ¬ (9223372036854775807 < XA.size + 1) := by rw [← hXA]; exact z2
  have hT2 : XA ++ (⟨#[58]⟩ : ByteArray) = T := by rw [← hXA]; exact hT'
  clear z2 hT'
  go_enter Tryz.func11, Tryz.ntmps11
  go_wp2_with fail
  show Calls _ _ _ ((w.alloc (.cells (bs Z) 24)).alloc (.cells none25 30)) _
  rw [HW0.out]
  refine Calls.mono C0'.out ?_
  rintro e W1 ⟨rfl, b1⟩
  have H1 : Hid (Os Z w.heap.size (w.heap.size + 1) w W1) := H0.out.below b1
  obtain ⟨c, W2, rcv, hby, hb2⟩ := run_cvb W1 T (by rw [HTS.out]; omega)
  have rcv' : (cvR (.string T)).run Tryz.prog W1 = .ok (.slice (some ⟨W1.heap.size, 0, none⟩) T.size c) W2 := rcv
  have H2 : Hid (Os Z w.heap.size (w.heap.size + 1) w W2) := H1.out.below hb2
  have C2 : Hid _ := HO.out W2 _ (HT.out W2 H2.out.bel).1 hby
  clear C0' b1 H0 hby hb2 rcv
  go_wp2_with fail
  refine Calls.mono C2.out ?_
  rintro e W3 ⟨rfl, b3⟩
  have H3 : Hid (Os Z w.heap.size (w.heap.size + 1) w W3) := H2.out.below b3
  obtain ⟨W4, s4, r4, b4⟩ := layS W3 Y HYL.out
  have H4 : Hid (Os Z w.heap.size (w.heap.size + 1) w W4) := H3.out.below b4
  have l4 := run_ldS W4 W3.heap.size Y r4 HYL.out
  have C4 : Hid _ := HC.out W4 H4.out.bel
  clear C2 b3 b4 rcv' H1 H2 r4 z1 z2' hT2 hXA
  go_wp2_with fail
  refine Calls.mono C4.out ?_
  rintro e W5 ⟨rfl, b5⟩
  have H5 : Os Z w.heap.size (w.heap.size + 1) w W5 := H4.out.below b5
  have st := run_storeR25 W5 (w.heap.size + 1) z20 (cH F) ⟨#[]⟩ (cN F) H5.row rfl HL.out
  have HR : Hid ((W5.setRow (w.heap.size + 1) (lab (cH F) (cN F))).heap[w.heap.size + 1]? = some (.cells (lab (cH F) (cN F)) 30 (0, 0))) := setRow_heap _ _ _ _ _ _ H5.row
  have HB : Hid (Below w.heap.size w (W5.setRow (w.heap.size + 1) (lab (cH F) (cN F)))) := below_setRow H5.bel (Nat.le_succ _) _
  clear C4 b5 H5 H4 H3 hbu l4 s4
  go_wp2_with fail
  exact bodyPost_ret (results_cell2 rfl _ _ (w.heap.size + 1) (cH F) (cN F) HL.out rfl HR.out) rfl ⟨rfl, HB.out⟩
end Go.Proofs.YteajpimonenopaaGreatDoor
