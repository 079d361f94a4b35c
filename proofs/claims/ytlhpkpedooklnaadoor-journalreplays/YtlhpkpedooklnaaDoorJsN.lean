/- JournalReplays: the law's diskOf and sameDisk. -/
import Derived.Test.YtlhpkpedooklnaaDoorJsL
import Derived.Test.YtlhpkpedooklnaaDoorJsM
namespace Go.Proofs.YtlhpkpedooklnaaDoor
open Go.RowKit
open JM
attribute [local go_sem ↓] toCvS in
set_option maxRecDepth 100000 in
theorem same_eq {W : World} {a b a' b' : Value} {p q : List Nat} (ha : Bl W a p) (hb : Bl W b q) (ha' : Bl W a' p) (hb' : Bl W b' q) : Calls Tryd.prog 8 #[.agg #[a, b], .agg #[a', b']] W fun e w' => e = .returned (.bool true) ∧ Below W.heap.size W w' := by
  obtain ⟨W2, hW2⟩ : ∃ W2, (W.alloc (.cells #[a, b] 25)).alloc (.cells #[a', b'] 25) = W2 := ⟨_, rfl⟩
  have b2 : Below W.heap.size W W2 := by rw [← hW2]; exact below2 _ _ _
  have k1 := cv_bl (ha.below b2)
  have k2 := cv_bl (hb.below b2)
  have k3 := cv_bl (ha'.below b2)
  have k4 := cv_bl (hb'.below b2)
  obtain ⟨o1, c1, h1, -⟩ := ha
  obtain ⟨o2, c2, h2, -⟩ := hb
  obtain ⟨o3, c3, h3, -⟩ := ha'
  obtain ⟨o4, c4, h4, -⟩ := hb'
  obtain ⟨n, hn⟩ : ∃ n, p.length = n := ⟨_, rfl⟩
  obtain ⟨m, hm⟩ : ∃ n, q.length = n := ⟨_, rfl⟩
  obtain ⟨S, hS⟩ : ∃ S, mkS p = S := ⟨_, rfl⟩
  obtain ⟨T, hT⟩ : ∃ S, mkS q = S := ⟨_, rfl⟩
  rw [hS] at k1 k3
  rw [hT] at k2 k4
  rw [hn] at h1 h3
  rw [hm] at h2 h4
  subst h1 h2 h3 h4
  have HB : Hid (Below W.heap.size W W2) := b2
  rw [← hW2] at k1 k2 k3 k4
  have HW : Hid (_ = W2) := hW2
  clear hW2 b2 hn hm hS hT
  go_enter Tryd.func8, Tryd.ntmps8
  go_wp2_with fail
  go_ret
  exact ⟨rfl, by rw [HW.out]; exact HB.out⟩
theorem sizeDk : (Tryd.prog.info? 25).map (·.size) = some 2 := by kernel_rfl
theorem st_Dk (w : World) (g : Nat) (C D : Array Value) (hC : C.size = 2) (hD : D.size = 2) (h1 : D.all (·.oneCell') = true) (hg : w.heap[g]? = some (.cells C 25 (0, 0))) : (Instr.storeAt 25 (.pointer (some ⟨g, 0, none⟩)) (.agg D)).run Tryd.prog w = .ok () (w.setRow g D) := by
  simp only [Instr.storeAt, Instr.sureAddr, Sem.run_bind, Sem.run_pure, Result.andThen_ok, run_storeVar_row w g 25 25 C D hg (by rw [sizeDk, hD]) (by rw [hD, hC]) h1]
theorem results_Dk {fn : Func} {p : Tmp} (h : fn.results = #[.cell p 25]) (tmps : Array Value) (w : World) (g : Nat) (C : Array Value) (hC : C.size = 2)
    (hp : tmps.getD p undef = .pointer (some ⟨g, 0, none⟩)) (hg : w.heap[g]? = some (.cells C 25 (0, 0))) :
    (results fn tmps).run Tryd.prog w = .ok (.agg C) w := by
  have hp' : tmps[p]?.getD undef = .pointer (some ⟨g, 0, none⟩) := by simpa using hp
  simp [results, h, hp', asAddr, run_loadVar_row w g 25 25 C (0, 0) _ hg Tryd.underlying25 rfl (by rw [sizeDk, hC])]
theorem SW.all {N c b a t ld : Nat} {Z0 Z1 Z2 Z3 Z4 : World} {l : Array Bool} {w : World} (h : SW N c b a t ld Z0 Z1 Z2 Z3 Z4 l w) : w = Z0 ∨ w = Z1 ∨ w = Z2 ∨ w = Z3 ∨ w = Z4 := by
  by_cases ht : l.getD t false = true
  · exact .inr (.inr (.inr (.inr (h.w4 ht))))
  · by_cases hc : l.getD c false = true
    · by_cases hb : l.getD b false = true
      · by_cases ha : l.getD a false = true
        · exact .inr (.inr (.inr (.inl (h.w3 ha (bfalse ht)))))
        · exact .inr (.inr (.inl (h.w2 hb (bfalse ha))))
      · exact .inr (.inl (h.w1 hc (bfalse hb)))
    · exact .inl (h.w0 (bfalse hc))
set_option maxRecDepth 100000 in
set_option maxHeartbeats 3200000 in
theorem diskOf_any (W : World) {oa ob : Option Addr} {ca cb : Nat} {l0 l1 : List Nat} (h0 : Bl W (.slice oa l0.length ca) l0) (h1 : Bl W (.slice ob l1.length cb) l1) (hl0 : l0.length ≤ LIM) (hl1 : l1.length ≤ LIM) :
    Calls Tryd.prog 4 #[.agg #[.slice oa l0.length ca, .slice ob l1.length cb]] W fun e w' => ∃ (o2 o3 : Option Addr) (c2 c3 : Nat), e = .returned (.agg #[.slice o2 l0.length c2, .slice o3 l1.length c3]) ∧ Bl w' (.slice o2 l0.length c2) l0 ∧ Bl w' (.slice o3 l1.length c3) l1 ∧ Below W.heap.size W w' := by
  obtain ⟨A, hA⟩ : ∃ A, (W.alloc (.cells #[.slice oa l0.length ca, .slice ob l1.length cb] 25)).alloc (.cells #[.slice none 0 0, .slice none 0 0] 25) = A := ⟨_, rfl⟩
  have bA : Below W.heap.size W A := by rw [← hA]; exact below2 _ _ _
  have r0 : A.heap[W.heap.size]? = some (.cells #[.slice oa l0.length ca, .slice ob l1.length cb] 25 (0, 0)) := by rw [← hA]; exact row2 _ _ _
  have r1 : A.heap[W.heap.size + 1]? = some (.cells #[.slice none 0 0, .slice none 0 0] 25 (0, 0)) := by rw [← hA]; exact row2n _ _ _
  have zA : A.heap.size = W.heap.size + 1 + 1 := by rw [← hA]; simp
  obtain ⟨Z0, hZ0⟩ : ∃ Z, A.drew = Z := ⟨_, rfl⟩
  have zb0 : Below A.heap.size A Z0 := by rw [← hZ0]; exact ⟨rfl, rfl, rfl, Nat.le_refl _, fun _ _ => rfl⟩
  have zs0 : Z0.heap.size = A.heap.size := by rw [← hZ0]; rfl
  have B0 : Below W.heap.size W Z0 := bA.trans (zb0.mono bA.size)
  obtain ⟨Z1, hZ1⟩ : ∃ Z, Z0.alloc (.cells (bs l0).toArray 5) = Z := ⟨_, rfl⟩
  have zb1 : Below A.heap.size A Z1 := by rw [← hZ1]; exact zb0.alloc zb0.size _
  have zs1 : Z1.heap.size = Z0.heap.size + 1 := by rw [← hZ1]; simp
  have B1 : Below W.heap.size W Z1 := bA.trans (zb1.mono bA.size)
  obtain ⟨Z2, hZ2⟩ : ∃ Z, Z1.alloc (.cells (bs l1).toArray 5) = Z := ⟨_, rfl⟩
  have zb2 : Below A.heap.size A Z2 := by rw [← hZ2]; exact zb1.alloc zb1.size _
  have B2 : Below W.heap.size W Z2 := bA.trans (zb2.mono bA.size)
  have byt0 : Byt l0 := by
    obtain ⟨_, _, _, _, _, hb, _⟩ := h0
    exact hb
  have byt1 : Byt l1 := by
    obtain ⟨_, _, _, _, _, hb, _⟩ := h1
    exact hb
  have C0 := copL_any Z0 _ l0 (h0.below B0) hl0
  have C1 := copL_any Z1 _ l1 (h1.below B1) hl1
  have o0 : Bl Z1 (.slice (some ⟨Z0.heap.size, 0, none⟩) l0.length l0.length) l0 := by rw [← hZ1]; exact (Ob.of_new Z0 l0 byt0 hl0).bl
  have o1 : Bl Z2 (.slice (some ⟨Z1.heap.size, 0, none⟩) l1.length l1.length) l1 := by rw [← hZ2]; exact (Ob.of_new Z1 l1 byt1 hl1).bl
  have z12 : Below Z1.heap.size Z1 Z2 := by rw [← hZ2]; exact (Below.refl _ Z1).alloc (Nat.le_refl _) _
  have q1 := (zb2.block (W.heap.size + 1) (by omega)).trans r1
  obtain ⟨Z4, hZ4⟩ : ∃ Z, Z2.setRow (W.heap.size + 1) #[.slice (some ⟨Z0.heap.size, 0, none⟩) l0.length l0.length, .slice (some ⟨Z1.heap.size, 0, none⟩) l1.length l1.length] = Z := ⟨_, rfl⟩
  have S4 := st_Dk Z2 (W.heap.size + 1) _ #[.slice (some ⟨Z0.heap.size, 0, none⟩) l0.length l0.length, .slice (some ⟨Z1.heap.size, 0, none⟩) l1.length l1.length] rfl rfl (by simp [Value.oneCell']) q1
  have z4r : Z4.heap[W.heap.size + 1]? = some (.cells #[.slice (some ⟨Z0.heap.size, 0, none⟩) l0.length l0.length, .slice (some ⟨Z1.heap.size, 0, none⟩) l1.length l1.length] 25 (0, 0)) := by rw [← hZ4]; exact setRow_heap _ _ _ _ _ _ q1
  have z4o : ∀ k : Nat, k ≠ W.heap.size + 1 → Z4.heap[k]? = Z2.heap[k]? := fun k hk => by rw [← hZ4]; exact setRow_other _ _ _ _ hk
  have z4s : Z4.heap.size = Z2.heap.size := by rw [← hZ4, size_setRow]
  have B4 : Below W.heap.size W Z4 := by
    rw [← hZ4]
    exact ⟨B2.os, B2.tape, B2.output, by rw [size_setRow]; exact B2.size, fun k hk => (setRow_other _ _ _ _ (by omega)).trans (B2.block k hk)⟩
  have tr : ∀ {g o : Nat} {l : List Nat} {n c : Nat}, g ≠ W.heap.size + 1 → Bl Z2 (.slice (some ⟨g, o, none⟩) n c) l → Bl Z4 (.slice (some ⟨g, o, none⟩) n c) l := fun {g o l n c} hg h => by
    obtain ⟨oa', cap', e, k1, k2, k3, k4⟩ := h
    refine ⟨oa', cap', e, k1, k2, k3, fun j u hu => ?_⟩
    obtain ⟨g', o', e1, e2, e3⟩ := k4 j u hu
    injection e with e _ _
    rw [e1] at e
    injection e with e
    injection e with ea eb
    refine ⟨g', o', e1, by rw [z4s]; exact e2, (World.cell?_of_block (w := Z2) (a := ⟨g', o' + j, none⟩) (z4o g' (by rw [← ea]; exact hg))).trans e3⟩
  have f0 := tr (by omega) (o0.below z12)
  have f1 := tr (by omega) o1
  have cell0 : ∀ x : World, x.heap[W.heap.size]? = A.heap[W.heap.size]? → x.cell? ⟨W.heap.size, 0, none⟩ = some (.slice oa l0.length ca) ∧ x.cell? ⟨W.heap.size, 1, none⟩ = some (.slice ob l1.length cb) := fun x hx => ⟨(cell_of_row _ _ _ _ _ _ (hx.trans r0)).trans rfl, (cell_of_row _ _ _ _ _ _ (hx.trans r0)).trans rfl⟩
  have k0 := cell0 Z0 (zb0.block _ (by omega))
  have k1 := cell0 Z1 (zb1.block _ (by omega))
  have k2 := cell0 Z2 (zb2.block _ (by omega))
  have k4 := cell0 Z4 ((z4o _ (by omega)).trans (zb2.block _ (by omega)))
  have HF := mkHid (And.intro f0 (And.intro f1 (And.intro B4 z4r)))
  clear f0 f1 B4 z4r tr z4o z4s q1 z12 o0 o1 B2 zb2 B1 zb1 B0 zb0 cell0 r0 r1 bA
  rw [hZ1] at C0
  rw [hZ2] at C1
  rw [hZ4] at S4
  go_enter Tryd.func4, Tryd.ntmps4
  go_wp2_with fail
  rename_i K hK
  replace hK := mkHid hK
  refine wp_region_vals (ops := regD) (V := VD W.heap.size (W.heap.size + 1) Z0.heap.size Z1.heap.size l0.length l1.length l0.length ca l1.length cb oa ob) (S := SW 11 3 7 8 10 6 Z0 Z1 Z2 Z2 Z4) (by kernel_rfl) (fun i o ho => (okR_at okRD ho).1) (fun i j o oj d ho hj q1 q2 => (okR_at okRD ho).2.2 j oj d hj q1 q2) (fun i o d ho q => (okR_at okRD ho).2.1 d q)
    (stepD _ W.heap.size (W.heap.size + 1) Z0.heap.size Z1.heap.size l0.length l1.length l0.length ca l1.length cb oa ob _ _ rfl rfl (fun i hi listed X h => have q := of_decide_eq_true hi; h.mv i q.1 (Ne.symm q.2.1) (Ne.symm q.2.2.1) (Ne.symm q.2.2.2.1) (Ne.symm q.2.2.2.2)) (fun listed X h _ hu _ => ?_) (fun listed X h _ hu hd => ?_) (fun listed X h _ hu _ => ⟨X, ?_, h.mv 2 (by decide) (by decide) (by decide) (by decide) (by decide)⟩) (fun listed X h _ hu _ => ⟨X, ?_, h.mv 6 (by decide) (by decide) (by decide) (by decide) (by decide)⟩) (fun listed X h _ hu hd => ?_) (fun listed X h _ hu hd => ⟨X, ?_, h.mv 9 (by decide) (by decide) (by decide) (by decide) (by decide)⟩) (fun listed X h _ hu hd => ?_)) ?_ ?_
  · obtain ⟨rfl, h'⟩ := h.c (by decide) (by decide) (by decide) (by decide) hu
    refine C0.mono ?_
    rintro e x ⟨rfl, rfl⟩
    exact ⟨rfl, hZ1 ▸ h'⟩
  · obtain ⟨rfl, h'⟩ := h.b (by decide) (by decide) (by decide) (by decide) hu (hd 3 (by kernel_rfl))
    refine C1.mono ?_
    rintro e x ⟨rfl, rfl⟩
    exact ⟨rfl, hZ2 ▸ h'⟩
  · rcases h.all with rfl | rfl | rfl | rfl | rfl
    · simp [go_sem, k0]
    · simp [go_sem, k1]
    · simp [go_sem, k2]
    · simp [go_sem, k2]
    · simp [go_sem, k4]
  · rcases h.all with rfl | rfl | rfl | rfl | rfl
    · simp [go_sem, k0]
    · simp [go_sem, k1]
    · simp [go_sem, k2]
    · simp [go_sem, k2]
    · simp [go_sem, k4]
  · obtain ⟨rfl, h'⟩ := h.a (by decide) (by decide) hu (hd 7 (by kernel_rfl))
    exact ⟨X, by simp [go_sem], h'⟩
  · simp [go_sem]
  · obtain ⟨rfl, h'⟩ := h.t (by decide) hu (hd 8 (by kernel_rfl)) (hd 6 (by kernel_rfl))
    exact ⟨Z4, S4, h'⟩
  · try rw [hA]
    rw [hZ0]
    exact SW.start _ _ _ _ _ _ _ _ _ _ _
  · intro x hx
    obtain rfl := hx.fin (by decide)
    rw [putD]
    refine hK.out _ _ ?_
    clear hK
    go_wp2_with fail
    refine bodyPost_ret (results_Dk rfl _ _ (W.heap.size + 1) _ rfl rfl HF.out.2.2.2) rfl ?_
    exact ⟨_, _, _, _, rfl, HF.out.1, HF.out.2.1, HF.out.2.2.1⟩
end Go.Proofs.YtlhpkpedooklnaaDoor
