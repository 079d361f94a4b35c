/- SieveScans: two scanners beside one another. -/
import Derived.Test.YtceaklefdahfkabSc6
namespace Go.Proofs.Ytceaklefdahfkab
open Go.RowKit
/-- Two scanners (or none): what both answer, and which blocks that hangs on: those below B, and one that the document's keeps. -/
structure Sys (A B gs gd : Nat) (c d : Option Addr) (SC : List Nat → World → Prop) (SR : List Nat → Option Nat → World → Prop) (H2 : List Nat → List Nat → List (Int × Int)) (HD NN : List Nat → Nat) : Prop where
  gs0 : A ≤ gs
  gs1 : gs < B
  gd0 : A ≤ gd
  gd1 : gd < B
  kc : ∀ y W W', SC y W → W.heap.size ≤ W'.heap.size → (∀ j, j < B → W'.heap[j]? = W.heap[j]?) → SC y W'
  kr : ∀ y b W W', SR y b W → W.heap.size ≤ W'.heap.size → (∀ j, j < B ∨ b = some j → W'.heap[j]? = W.heap[j]?) → SR y b W'
  kcd : ∀ y W W', SC y W → But gd W W' → SC y W'
  krc : ∀ y b W W', SR y b W → (∀ k, b = some k → k < W.heap.size ∧ k ≠ gs) → But gs W W' → SR y b W'
  fc : ∀ y p pv W, SC y W → Byt p → p.length ≤ 16777216 → y.length ≤ 1125899906842624 → Si .u8 pv p W → Calls Try.prog 21 #[.pointer c, pv] W fun e w' => ∃ v, e = .returned v ∧ w'.ownsRow W.heap.size 39 2 v (H2 y p).length (hc (H2 y p)) ∧ SC (y ++ p) w' ∧ But gs W w'
  fr : ∀ y b p pv W, SR y b W → Byt y → Byt p → p.length ≤ 16777216 → y.length ≤ 1125899906842624 → Si .u8 pv p W → Calls Try.prog 30 #[.pointer d, pv] W fun e w' => ∃ v b', e = .returned v ∧ w'.ownsRow W.heap.size 39 2 v (H2 y p).length (hc (H2 y p)) ∧ SR (y ++ p) b' w' ∧ (∀ k, b' = some k → W.heap.size ≤ k ∧ k < w'.heap.size) ∧ But gd W w'
  ac : ∀ y W, SC y W → Calls Try.prog 31 #[.pointer c] W fun e w' => e = .returned (.int .i64 (NN y : Int)) ∧ w' = W
  ar : ∀ y b W, SR y b W → Calls Try.prog 32 #[.pointer d] W fun e w' => e = .returned (.int .i64 (NN y : Int)) ∧ w' = W
  hC : ∀ y W, SC y W → Calls Try.prog 33 #[.pointer c] W fun e w' => e = .returned (.int .i64 (HD y : Int)) ∧ w' = W
  hR : ∀ y b W, SR y b W → Byt y → Calls Try.prog 34 #[.pointer d] W fun e w' => e = .returned (.int .i64 (HD y : Int)) ∧ Below W.heap.size W w'
theorem But.refl (g : Nat) (W : World) : But g W W := ⟨rfl, rfl, rfl, Nat.le_refl _, fun _ _ _ => rfl⟩
theorem sys_nil (A B : Nat) (h : A < B) : Sys A B A A none none (fun _ _ => True) (fun _ b _ => b = none) (fun _ _ => []) (fun _ => 0) (fun _ => 0) where
  gs0 := Nat.le_refl _
  gs1 := h
  gd0 := Nat.le_refl _
  gd1 := h
  kc := fun _ _ _ _ _ _ => trivial
  kr := fun _ _ _ _ h _ _ => h
  kcd := fun _ _ _ _ _ => trivial
  krc := fun _ _ _ _ h _ _ => h
  fc := fun y p pv W _ _ _ _ _ => (feed_nil pv W).mono (by
    rintro e w' ⟨rfl, rfl⟩
    exact ⟨_, rfl, World.ownsRow_nil _ _ _ _, trivial, But.refl _ _⟩)
  fr := fun y b p pv W _ _ _ _ _ _ => (feedR_nil pv W).mono (by
    rintro e w' ⟨rfl, rfl⟩
    exact ⟨_, none, rfl, World.ownsRow_nil _ _ _ _, rfl, (fun k hk => by cases hk), But.refl _ _⟩)
  ac := fun _ W _ => sat_nil W
  ar := fun _ _ W _ => atR_nil W
  hC := fun _ W _ => sheld_nil W
  hR := fun _ _ W _ _ => (heldR_nil W).mono (by rintro e w' ⟨rfl, rfl⟩; exact ⟨rfl, Below.refl _ _⟩)
theorem sys_p (l : List ByteArray) (ns : List Nat) (m : Nat) (hp : Pt l m) (hn : NewOk l ns) (hnd : (l.map tl).Nodup) (A K B gs gd gt g : Nat) (lv : Value) (fv : Nat → Value) (w0 : World) (hK : w0.heap.size = K) (hA : A ≤ K) (h1 : K ≤ gs) (h2 : gs < gd) (h3 : gd < B) (hT : TabK K gt (ftT ((wdS l ns).map tl) ns m) w0) (hR : Rf g lv fv l (fst (l.map tl)) m w0) :
    Sys A B gs gd (some ⟨gs, 0, none⟩) (some ⟨gd, 0, none⟩) (fun y W => (∃ s, Scn gs gt s y.length (hld2 (l.map tl) m y) W ∧ At ((wdS l ns).map tl) m s y) ∧ w0.heap.size ≤ W.heap.size ∧ ∀ j, j < K → W.heap[j]? = w0.heap[j]?)
      (fun y b W => (∃ lvv, Rsc gd g lvv y.length W ∧ Si .u8 lvv (lastN m y) W ∧ lvv.ownBlock = b) ∧ w0.heap.size ≤ W.heap.size ∧ ∀ j, j < K → W.heap[j]? = w0.heap[j]?) (hit2 (l.map tl) m) (hld2 (l.map tl) m) List.length where
  gs0 := by omega
  gs1 := by omega
  gd0 := by omega
  gd1 := h3
  kc := fun y W W' ⟨⟨s, a, b⟩, c, d⟩ hs hb => ⟨⟨s, (hb gs (by omega)).trans a, b⟩, by omega, fun j hj => (hb j (by omega)).trans (d j hj)⟩
  kr := fun y b W W' ⟨⟨lvv, a, a2, a3⟩, c, d⟩ hs hb => ⟨⟨lvv, (hb gd (.inl h3)).trans a, a2.keep hs fun k hk _ => hb k (.inr (by rw [← a3]; exact hk)), a3⟩, by omega, fun j hj => (hb j (.inl (by omega))).trans (d j hj)⟩
  kcd := fun y W W' ⟨⟨s, a, b⟩, c, d⟩ hb => ⟨⟨s, (hb.block gs (Array.getElem?_eq_some_iff.1 a).1 (by omega)).trans a, b⟩, by have := hb.size; omega, fun j hj => (hb.block j (by omega) (by omega)).trans (d j hj)⟩
  krc := fun y b W W' ⟨⟨lvv, a, a2, a3⟩, c, d⟩ hk hb => ⟨⟨lvv, (hb.block gd (Array.getElem?_eq_some_iff.1 a).1 (by omega)).trans a, a2.keep hb.size fun k hk2 hz => hb.block k hz (hk k (by rw [← a3]; exact hk2)).2, a3⟩, by have := hb.size; omega, fun j hj => (hb.block j (by omega) (by omega)).trans (d j hj)⟩
  fc := fun y p pv W ⟨⟨s, a, b⟩, c, d⟩ hpb hpl hy hpv => by
    have hT2 : TabK gs gt (ftT ((wdS l ns).map tl) ns m) W := (hT.keep c fun j hj _ => d j hj).mono h1
    exact (feedC_any l m hp ns hn gs gt s _ y p hy hpb (by omega) pv W a b hT2 hpv).mono fun e w' ⟨v, s', q1, q2, q3, q4, q5⟩ => ⟨v, q1, q2, ⟨⟨s', q3, q4⟩, by have := q5.size; omega, fun j hj => (q5.block j (by omega) (by omega)).trans (d j hj)⟩, q5⟩
  fr := fun y b p pv W ⟨⟨lvv, a, a2, a3⟩, c, d⟩ hyb hpb hpl hy hpv => by
    have hg := hR.gz
    have hR2 : Rf g lv fv l (fst (l.map tl)) m W := hR.keep fun j _ hj => d j (by omega)
    exact (feedD_any l m hp hnd gd g lv fv y p hyb hpb hy hpl lvv pv W (by omega) a a2 hpv hR2).mono fun e w' ⟨v, lvv', q1, q2, q3, q4, q5, q6⟩ => ⟨v, lvv'.ownBlock, q1, q2, ⟨⟨lvv', q3, q4, rfl⟩, by have := q6.size; omega, fun j hj => (q6.block j (by omega) (by omega)).trans (d j hj)⟩, fun k hk => ⟨q5 k hk, by
      rcases q4 with ⟨z1, _⟩ | ⟨b', o', c', z1, _, _, z4, _⟩
      · rw [z1] at hk; cases hk
      · rw [z1] at hk
        have : b' = k := by cases hk; rfl
        omega⟩, q6⟩
  ac := fun y W ⟨⟨s, a, _⟩, _⟩ => atC_any gs gt s _ _ W a
  ar := fun y b W ⟨⟨lvv, a, _⟩, _⟩ => atR_any gd g lvv _ W a
  hC := fun y W ⟨⟨s, a, _⟩, _⟩ => heldC_any gs gt s _ _ W a
  hR := fun y b W ⟨⟨lvv, a, a2, a3⟩, c, d⟩ hyb => by
    have hg := hR.gz
    refine heldR_any gd g lvv _ _ W a fun W2 hb2 => ?_
    have hR2 : Rf g lv fv l (fst (l.map tl)) m W2 := hR.keep fun j _ hj => (hb2.block j (by omega)).trans (d j (by omega))
    have hl := lastN_len m y
    have hm1 := hp.m1
    have := held_any g lv fv l m hp.m0 hm1 hp.ln hp.sz (lastN m y) (fun x hx => hyb x (List.mem_of_mem_drop hx)) (by omega) lvv W2 hR2 (a2.below hb2)
    rw [hl, show min (m - 1) (min (m - 1) y.length) = min (m - 1) y.length by omega] at this
    exact this
theorem te_stp (c : Nat) (hc : c < 256) : stp TE 0 c = (0, none) := by
  unfold stp
  rw [te_at c hc, te_len.1, if_neg (by decide)]
theorem te_rn : ∀ (p : List Nat), Byt p → rn TE 0 p = 0
  | [], _ => rfl
  | c :: p, hp => by
    rw [rn, te_stp c (hp c (by simp))]
    exact te_rn p fun x hx => hp x (by simp [hx])
theorem te_dep : TE.depths.getD 0 0 = 0 := by kernel_rfl
theorem lastN_0 (y : List Nat) : lastN 0 y = [] := by
  have := lastN_len 0 y
  exact List.length_eq_zero_iff.1 (by omega)
/-- Of no pattern. -/
theorem sys_e (A K B gs gd gt g : Nat) (lv : Value) (fv : Nat → Value) (F : Nat → List Nat) (w0 : World) (hK : w0.heap.size = K) (hA : A ≤ K) (h1 : K ≤ gs) (h2 : gs < gd) (h3 : gd < B) (hT : TabK K gt TE w0) (hR : Rf g lv fv [] F 0 w0) :
    Sys A B gs gd (some ⟨gs, 0, none⟩) (some ⟨gd, 0, none⟩) (fun y W => Scn gs gt 0 y.length 0 W ∧ w0.heap.size ≤ W.heap.size ∧ ∀ j, j < K → W.heap[j]? = w0.heap[j]?)
      (fun y b W => (∃ lvv, Rsc gd g lvv y.length W ∧ Si .u8 lvv [] W ∧ lvv.ownBlock = b) ∧ w0.heap.size ≤ W.heap.size ∧ ∀ j, j < K → W.heap[j]? = w0.heap[j]?) (fun _ _ => []) (fun _ => 0) List.length where
  gs0 := by omega
  gs1 := by omega
  gd0 := by omega
  gd1 := h3
  kc := fun y W W' ⟨a, c, d⟩ hs hb => ⟨(hb gs (by omega)).trans a, by omega, fun j hj => (hb j (by omega)).trans (d j hj)⟩
  kr := fun y b W W' ⟨⟨lvv, a, a2, a3⟩, c, d⟩ hs hb => ⟨⟨lvv, (hb gd (.inl h3)).trans a, a2.keep hs fun k hk _ => hb k (.inr (by rw [← a3]; exact hk)), a3⟩, by omega, fun j hj => (hb j (.inl (by omega))).trans (d j hj)⟩
  kcd := fun y W W' ⟨a, c, d⟩ hb => ⟨(hb.block gs (Array.getElem?_eq_some_iff.1 a).1 (by omega)).trans a, by have := hb.size; omega, fun j hj => (hb.block j (by omega) (by omega)).trans (d j hj)⟩
  krc := fun y b W W' ⟨⟨lvv, a, a2, a3⟩, c, d⟩ hk hb => ⟨⟨lvv, (hb.block gd (Array.getElem?_eq_some_iff.1 a).1 (by omega)).trans a, a2.keep hb.size fun k hk2 hz => hb.block k hz (hk k (by rw [← a3]; exact hk2)).2, a3⟩, by have := hb.size; omega, fun j hj => (hb.block j (by omega) (by omega)).trans (d j hj)⟩
  fc := fun y p pv W ⟨a, c, d⟩ hpb hpl hy hpv => by
    have hT2 : TabK gs gt TE W := (hT.keep c fun j hj _ => d j hj).mono h1
    have := feed_any gs gt TE te_wk _ te_gd 0 y.length 0 rfl (by omega) p hpb (by omega) pv W a hT2 hpv
    rw [te_fnd p _ hpb, te_rn p hpb, te_dep, ← List.length_append] at this
    exact this.mono fun e w' ⟨v, q1, q2, q3, q4, q5, q6, q7, q8⟩ => ⟨v, q1, q2, ⟨q3, by omega, fun j hj => (q8 j (by omega) (by omega)).trans (d j hj)⟩, ⟨q4, q5, q6, q7, q8⟩⟩
  fr := fun y b p pv W ⟨⟨lvv, a, a2, a3⟩, c, d⟩ hyb hpb hpl hy hpv => by
    have hg := hR.gz
    have hR2 : Rf g lv fv [] F 0 W := hR.keep fun j _ hj => d j (by omega)
    have := feedR_any gd g 0 y.length (fun _ => []) [] p lvv pv W (by omega) (by omega) hy (by simp) (by simp) hpl a a2 hpv hR2.gz ((cell_of_row W g _ _ _ _ hR2.row).trans (rfC_w _ _ _))
      (fun W2 v hb hv => (scanR_0 g lv fv [] F v W2 (hR2.below hb)).mono (by rintro e w' ⟨rfl, rfl⟩; exact ⟨_, rfl, World.ownsRow_nil _ _ _ _, Below.refl _ _⟩))
      (fun x hx => by cases hx)
    rw [lastN_0, ← List.length_append] at this
    exact this.mono fun e w' ⟨v, lvv', q1, q2, q3, q4, q5, q6⟩ => ⟨v, lvv'.ownBlock, q1, q2, ⟨⟨lvv', q3, q4, rfl⟩, by have := q6.size; omega, fun j hj => (q6.block j (by omega) (by omega)).trans (d j hj)⟩, fun k hk => ⟨q5 k hk, by
      rcases q4 with ⟨z1, _⟩ | ⟨b', o', c', z1, _, _, z4, _⟩
      · rw [z1] at hk; cases hk
      · rw [z1] at hk
        have : b' = k := by cases hk; rfl
        omega⟩, q6⟩
  ac := fun y W ⟨a, _⟩ => atC_any gs gt 0 _ _ W a
  ar := fun y b W ⟨⟨lvv, a, _⟩, _⟩ => atR_any gd g lvv _ W a
  hC := fun y W ⟨a, _⟩ => heldC_any gs gt 0 _ _ W a
  hR := fun y b W ⟨⟨lvv, a, a2, a3⟩, c, d⟩ hyb => by
    have hg := hR.gz
    refine heldR_any gd g lvv _ 0 W a fun W2 hb2 => ?_
    have hR2 : Rf g lv fv [] F 0 W2 := hR.keep fun j _ hj => (hb2.block j (by omega)).trans (d j (by omega))
    exact (held_0 g lv fv [] F [] lvv W2 hR2 (a2.below hb2)).mono (by rintro e w' ⟨rfl, rfl⟩; exact ⟨rfl, Below.refl _ _⟩)
end Go.Proofs.Ytceaklefdahfkab
