/- Several texts in one: GuK, GuL. -/
import Derived.Test.YtgedmfcfhdfoeaaJgA
import Derived.Test.YtgedmfcfhdfoeaaGuJ
/- Graphs searched by the document: the least of the shortest paths, step by step (mathematics). -/
namespace Go.Proofs.Ytgedmfcfhdfoeaa
namespace GM
section
variable {F G : Nat → List Nat} {a b d r v x y z : Nat} {L M : List Nat}
theorem bl_front : ∀ {d a v : Nat}, Bl F a (d + 1) v ↔ Bl F a d v ∨ ∃ u, u ∈ F a ∧ Bl F u d v
  | 0, a, v => by
    constructor
    · rintro (h | ⟨u, h1, h2⟩)
      · exact .inl h
      · have h1 : u = a := h1
        subst h1
        exact .inr ⟨v, h2, rfl⟩
    · rintro (h | ⟨u, h1, h2⟩)
      · exact .inl h
      · have h2 : v = u := h2
        subst h2
        exact .inr ⟨a, rfl, h1⟩
  | d + 1, a, v => by
    constructor
    · rintro (h | ⟨u, h1, h2⟩)
      · exact .inl h
      · rcases bl_front.1 h1 with q | ⟨z, z1, z2⟩
        · exact .inl (.inr ⟨u, q, h2⟩)
        · exact .inr ⟨z, z1, .inr ⟨u, z2, h2⟩⟩
    · rintro (h | ⟨u, h1, h2⟩)
      · exact .inl h
      · rcases h2 with q | ⟨z, z1, z2⟩
        · exact .inl (bl_front.2 (.inr ⟨u, h1, q⟩))
        · exact .inr ⟨z, bl_front.2 (.inr ⟨u, h1, z1⟩), z2⟩
theorem bl_turn (hG : ∀ x y, y ∈ F x ↔ x ∈ G y) : ∀ {d a v : Nat}, Bl F a d v ↔ Bl G v d a
  | 0, a, v => ⟨fun h => (h : v = a).symm, fun h => (h : a = v).symm⟩
  | d + 1, a, v => by
    rw [bl_front (F := G)]
    constructor
    · rintro (h | ⟨u, h1, h2⟩)
      · exact .inl ((bl_turn hG).1 h)
      · exact .inr ⟨u, (hG u v).1 h2, (bl_turn hG).1 h1⟩
    · rintro (h | ⟨u, h1, h2⟩)
      · exact .inl ((bl_turn hG).2 h)
      · exact .inr ⟨u, (bl_turn hG).2 h2, (hG u v).2 h1⟩
theorem ds_turn (hG : ∀ x y, y ∈ F x ↔ x ∈ G y) : Ds F a d v ↔ Ds G v d a := by
  unfold Ds
  rw [bl_turn hG]
  exact and_congr_right fun _ => ⟨fun h e he k => h e he ((bl_turn hG).2 k), fun h e he k => h e he ((bl_turn hG).1 k)⟩
/-- The next node on the way. -/
theorem ds_front (h : Ds F x (r + 1) b) : ∃ z, z ∈ F x ∧ Ds F z r b := by
  rcases bl_front.1 h.1 with q | ⟨u, h1, h2⟩
  · exact absurd q (h.2 r (by omega))
  · exact ⟨u, h1, h2, fun e he k => h.2 (e + 1) (by omega) (bl_front.2 (.inr ⟨u, h1, k⟩))⟩
theorem ds_front_le (h : Ds F x (r + 1) b) (hz : z ∈ F x) (k : Bl F z r b) : Ds F z r b :=
  ⟨k, fun e he q => h.2 (e + 1) (by omega) (bl_front.2 (.inr ⟨z, hz, q⟩))⟩
/-- A path so far: the least beginning of all. -/
structure Gp (F : Nat → List Nat) (a b d x r : Nat) (L : List Nat) : Prop where
  ln : L.length + r = d + 1
  ps : r ≤ d
  hd : L.getD 0 0 = a
  tl : L.getD (d - r) 0 = x
  ch : Chn F L
  ds : Ds F x r b
  mi : ∀ M, Pt0 F a b d M → L = M.take L.length ∨ lx L (M.take L.length)
theorem gp_zero (h : Ds F a d b) : Gp F a b d a d [a] := by
  refine ⟨by simp; omega, Nat.le_refl _, rfl, by simp, trivial, h, fun M hM => .inl ?_⟩
  have h1 := hM.ln
  have h2 := hM.hd
  cases M with
  | nil => simp at h1
  | cons m r => simpa using h2.symm
theorem chn_tail (h : Chn F M) (hl : M.length = d + 1) (ht : M.getD d 0 = b) : ∀ j, j ≤ d → Bl F (M.getD (d - j) 0) j b
  | 0, _ => by rw [Nat.sub_zero, ht]; exact rfl
  | j + 1, hj => by
    have ih := chn_tail h hl ht j (by omega)
    have := h.get (d - (j + 1)) (by omega)
    rw [show d - (j + 1) + 1 = d - j by omega] at this
    exact bl_front.2 (.inr ⟨_, this, ih⟩)
theorem Gp.step (h : Gp F a b d x (r + 1) L) (hy : y ∈ F x) (hd : Ds F y r b) (hm : ∀ z, z ∈ F x → Ds F z r b → y ≤ z) : Gp F a b d y r (L ++ [y]) := by
  have hln := h.ln
  have hps := h.ps
  refine ⟨by simp; omega, by omega, by rw [getD_snoc_lt (by omega)]; exact h.hd, ?_, chn_of fun i hi => ?_, hd, fun M hM => ?_⟩
  · rw [show d - r = L.length by omega]
    exact getD_snoc_eq L y
  · rw [List.length_append, List.length_singleton] at hi
    rw [getD_snoc_lt (by omega : i < L.length)]
    by_cases e : i + 1 < L.length
    · rw [getD_snoc_lt e]
      exact h.ch.get i e
    · rw [show i + 1 = L.length by omega, getD_snoc_eq, show i = d - (r + 1) by omega, h.tl]
      exact hy
  · have hMl := hM.ln
    have e1 : M.take (L ++ [y]).length = M.take L.length ++ [M.getD L.length 0] := by
      rw [List.length_append, List.length_singleton, List.take_add_one, List.getElem?_eq_getElem (by omega)]
      simp [List.getD, show L.length < M.length by omega]
    rw [e1]
    rcases h.mi M hM with q | q
    · have ex : M.getD (d - (r + 1)) 0 = x := by
        have hl : d - (r + 1) < L.length := by omega
        rw [← h.tl]
        have : L.getD (d - (r + 1)) 0 = (M.take L.length).getD (d - (r + 1)) 0 := by rw [← q]
        rw [this]
        simp [List.getD, hl]
      have hz := hM.ch.get (d - (r + 1)) (by omega)
      rw [ex, show d - (r + 1) + 1 = L.length by omega] at hz
      have hb := chn_tail hM.ch hMl hM.tl r (by omega)
      rw [show d - r = L.length by omega] at hb
      have hzd := ds_front_le h.ds hz hb
      have hle := hm _ hz hzd
      rcases Nat.lt_or_eq_of_le hle with k | k
      · exact .inr (by rw [← q]; exact lx.last k L)
      · exact .inl (by rw [← q, ← k])
    · exact .inr (q.app _ _)
theorem Gp.done (h : Gp F a b d x 0 L) (hd : Ds F a d b) : Lp F a d b L := by
  have hln := h.ln
  have ex : x = b := (ds_zero.1 h.ds).symm
  refine ⟨⟨hd, by omega, h.hd, by have := h.tl; rw [Nat.sub_zero] at this; rw [this, ex], h.ch⟩, fun M hM => ?_⟩
  have := h.mi M hM
  rwa [List.take_of_length_le (by have := hM.ln; omega)] at this
end
end GM
end Go.Proofs.Ytgedmfcfhdfoeaa

/- Graphs searched by the document: least, walked. -/
namespace Go.Proofs.Ytgedmfcfhdfoeaa
open Go.RowKit GM
set_option maxRecDepth 20000
/-- What least answers. -/
def LeR (F : Nat → List Nat) (a b d : Nat) (w : World) (e : Ending) (w' : World) : Prop := ∃ L o c, e = .returned (.slice o (d + 1) c) ∧ Lp F a d b L ∧ w'.ownsRow w.heap.size 3 1 (.slice o (d + 1) c) (d + 1) (ik L).toList ∧ Below w.heap.size w w'
/-- The path laid so far. -/
def Gl1 (w : World) (F : Nat → List Nat) (a b d x r m : Nat) (pv : Value) (wr : World) : Prop := ∃ L, Gp F a b d x r L ∧ L.length = m ∧ wr.ownsRow w.heap.size 3 1 pv m (ik L).toList ∧ Below w.heap.size w wr
theorem Gl1.bel {w wr : World} {F : Nat → List Nat} {a b d x r m : Nat} {pv : Value} (h : Gl1 w F a b d x r m pv wr) : Below w.heap.size w wr := by
  obtain ⟨L, -, -, -, h⟩ := h
  exact h
theorem Gl1.ds {w wr : World} {F : Nat → List Nat} {a b d x r m : Nat} {pv : Value} (h : Gl1 w F a b d x r m pv wr) : Ds F x r b ∧ m + r = d + 1 := by
  obtain ⟨L, h1, h2, -⟩ := h
  exact ⟨h1.ds, by rw [← h2]; exact h1.ln⟩
theorem Gl1.add {w wr : World} {F : Nat → List Nat} {a b d x y r m : Nat} {pv : Value} (h : Gl1 w F a b d x (r + 1) m pv wr) (hy : y ∈ F x) (hd : Ds F y r b) (hm : ∀ z, z ∈ F x → Ds F z r b → y ≤ z) (hm2 : m ≤ 100000000) :
    ∃ o c w', (apI 32 #[pv, .slice (some ⟨wr.heap.size, 0, none⟩) 1 1]).run Try.prog (wr.alloc (.cells #[.int .i64 (y : Int)] 3)) = .ok (.slice o (m + 1) c) w' ∧ Gl1 w F a b d y r (m + 1) (.slice o (m + 1) c) w' := by
  obtain ⟨L, h1, h2, h3, h4⟩ := h
  obtain ⟨v', w', r1, r2, r3, r4⟩ := run_apI wr w.heap.size m 32 pv L y h3 (by omega) h4.size
  obtain ⟨o, c, rfl⟩ := own_size r2
  have hz : wr.heap.size ≤ w'.heap.size := by have := r3.size; simp at this; omega
  have bb : Below w.heap.size wr w' := ⟨r3.os, r3.tape, r3.output, hz, fun b hb => grown_oldR r3 b (by have := h4.size; omega) (fun e => by have := (h3.lt b e).1; omega)⟩
  exact ⟨o, c, w', r1, L ++ [y], h1.step hy hd hm, by simp [h2], r2, h4.trans bb⟩
theorem gt0I {r : Nat} (h : 0 < r) : (0 : Int) < (r : Int) := by omega
theorem subU {r : Nat} (h : r ≤ 1000000) : wrap64 (((r + 1 : Nat) : Int) - 1) = (r : Int) ∧ IntKind.i64.wrap (((r + 1 : Nat) : Int) - 1) = (r : Int) := by
  constructor
  · unfold wrap64; omega
  · rw [IntKind.wrap_i64]; omega
theorem dV_eq {o : Option Nat} {r : Nat} : dV o = (r : Int) ↔ o = some r := by
  cases o with
  | none => simp only [dV]; constructor
            · intro h; omega
            · intro h; cases h
  | some k => simp only [dV, Option.some.injEq]; omega
theorem gl_m {m r d N : Nat} (h : m + (r + 1) = d + 1) (h1 : d ≤ N) (h2 : N ≤ 8192) : m ≤ 100000000 := by omega
theorem gl_n {m r d N : Nat} (h : m + (r + 1) = d + 1) (h1 : d ≤ N) : m < N + 2 := by omega
def lenU : Value → Nat
  | .slice _ n _ => n
  | _ => 0
theorem measLe {N m : Nat} (h : m < N + 2) : N + 2 - (m + 1) < N + 2 - m := by omega
theorem take_all {l : List Nat} {p : Nat → Prop} {i : Nat} (h : ∀ y, y ∈ l.take i → p y) (hi : i < l.length) (hx : p (l.getD i 0)) : ∀ y, y ∈ l.take (i + 1) → p y := fun y hy => by
  rw [take_snocN hi, List.mem_append, List.mem_singleton] at hy
  rcases hy with k | k
  · exact h y k
  · rw [k]; exact hx
theorem first_least {l : List Nat} (hr : l.Pairwise (· < ·)) {p : Nat → Prop} {i : Nat} (h : ∀ y, y ∈ l.take i → ¬ p y) (hi : i < l.length) : ∀ z, z ∈ l → p z → l.getD i 0 ≤ z := fun z hz hp => by
  obtain ⟨j, hj, e⟩ := List.getElem_of_mem hz
  by_cases k : j < i
  · exact absurd hp (h z (by rw [← e, List.mem_take_iff_getElem]; exact ⟨j, by omega, rfl⟩))
  · by_cases q : i = j
    · subst q; simp [List.getD, hj, e]
    · have := List.pairwise_iff_getElem.1 hr i j hi hj (by omega)
      rw [e] at this
      simp only [List.getD, List.getElem?_eq_getElem hi, Option.getD_some]
      omega
attribute [local go_sem ↓] toApI
set_option maxRecDepth 100000 in
set_option maxHeartbeats 6400000 in
theorem least_doc (w : World) {g gB N a b d : Nat} {V : Nat → Value} {F : Nat → List Nat} {f : Nat → Option Nat} {dl : List Int} (hN : N ≤ 8192) (hr : Rws g N F V w) (hF : ∀ v, v < N → ∀ x ∈ F v, x < N) (hFl : ∀ v, (F v).length ≤ N) (hFr : ∀ v, (F v).Pairwise (· < ·)) (hB : w.heap[gB]? = some (.cells (izU dl) 3 (0, 0))) (hdl : dl.length = N) (hdv : ∀ v, v < N → dl.getD v 0 = dV (f v)) (hf : ∀ v k, f v = some k ↔ Ds F v k b) (ha : a < N) (hd : Ds F a d b) (hdN : d ≤ N) :
    Calls Try.prog 51 #[.slice (some ⟨g, 0, none⟩) N N, .slice (some ⟨gB, 0, none⟩) N N, .int .i64 (a : Int)] w (LeR F a b d w) := by
  have cD : ∀ wr, Below w.heap.size w wr → ∀ v, v < N → wr.cell? ⟨gB, v, none⟩ = some (.int .i64 (dV (f v))) := fun wr hb v hv => by
    rw [← hdv v hv]
    exact cell_belowX hb ((cell_of_row _ _ _ _ _ _ hB).trans (izU_get _ _ (by rw [hdl]; exact hv)))
  obtain ⟨W0, hW0⟩ : ∃ W0, w.alloc (.cells #[.int .i64 (a : Int)] 3) = W0 := ⟨_, rfl⟩
  obtain ⟨kP, hkP⟩ : ∃ k, w.heap.size = k := ⟨_, rfl⟩
  have H0 : Hid (Gl1 w F a b d a d 1 (.slice (some ⟨kP, 0, none⟩) 1 1) W0) := by
    refine ⟨[a], gp_zero hd, rfl, ?_, by rw [← hW0]; exact (Below.refl _ w).alloc (Nat.le_refl _) _⟩
    rw [← hkP, ← hW0]
    exact ⟨by simp [ik], .inr ⟨w.heap.size, 1, _, rfl, Nat.le_refl _, heap_alloc_new _ _, Nat.le_refl _, by unfold maxLen; omega, by simp, by simp [ik]⟩⟩
  have HQ := mkHid (And.intro hN (And.intro hr (And.intro hF (And.intro hFl (And.intro hFr (And.intro cD (And.intro hf (And.intro hd hdN))))))))
  clear hN hr hF hFl hFr hB hdl hdv hf hd hdN cD
  go_enter Try.func51, Try.ntmps51
  go_wp2_with fail
  try rw [hkP]
  try rw [hW0]
  clear hW0
  go_loopw [2, 7] (fun av pv wr => ∃ (x r m c : Nat) (o : Option Addr), av = .int .i64 (x : Int) ∧ pv = .slice o m c ∧ x < N ∧ Hid (Gl1 w F a b d x r m (.slice o m c) wr)) (fun _ pv wr => N + 2 - lenU pv)
  case atStart => exact ⟨a, d, 1, 1, _, rfl, rfl, ha, H0⟩
  case round =>
    clear H0
    obtain ⟨x, r, m, c, o, rfl, rfl, hxN, HI⟩ := hrel
    have hx := HI.out.ds
    have cx := HQ.out.2.2.2.2.2.1 wr HI.out.bel x hxN
    rw [(HQ.out.2.2.2.2.2.2.1 x r).2 hx.1] at cx
    have cx' : wr.cell? ⟨gB, x, none⟩ = some (.int .i64 (r : Int)) := cx
    have x0 := geI x
    have x1 := ltI hxN
    clear cx
    cases r with
    | zero =>
      have r0 : ¬ ((0 : Int) < ((0 : Nat) : Int)) := by omega
      have hm : m = d + 1 := by have := hx.2; omega
      subst hm
      have HE : Hid (LeR F a b d w (.returned (.slice o (d + 1) c)) wr) := by
        obtain ⟨L, h1, h2, h3, h4⟩ := HI.out
        exact ⟨L, o, c, rfl, h1.done HQ.out.2.2.2.2.2.2.2.1, h3, h4⟩
      have cx2 : wr.cell? ⟨gB, x, none⟩ = some (.int .i64 0) := cx'
      clear hx HI cx' r0
      go_wp2_with fail
      go_ret
      exact HE.out
    | succ r =>
      have r0 : (0 : Int) < ((r + 1 : Nat) : Int) := gt0I (Nat.succ_pos r)
      obtain ⟨hN, hr, hF, hFl, hFr, cD, hf, hd, hdN⟩ := HQ.out
      obtain ⟨ln, hln⟩ : ∃ n, (F x).length = n := ⟨_, rfl⟩
      have cV := (hr.below HI.out.bel).cell x hxN |>.1
      obtain ⟨-, oV, cV', eV, hVc⟩ := own_get (hr.own x hxN)
      rw [eV, hln] at cV
      obtain ⟨R, hR⟩ : ∃ R : Int, ((r + 1 : Nat) : Int) = R := ⟨_, rfl⟩
      have hrN : r ≤ 1000000 := by have := hx.2; have : m ≥ 1 := by obtain ⟨L, h1, h2, -⟩ := HI.out; have := h1.ps; have := h1.ln; omega
                                   omega
      have wr1 := (subU hrN).1
      have wr2 := (subU hrN).2
      rw [hR] at cx' r0 wr1 wr2
      have HX := mkHid (And.intro hln (And.intro eV (And.intro hx (And.intro hxN hR))))
      clear hN hr hF hFl hFr cD hf hd hdN hln eV hVc hx hrN
      go_wp2_with fail
      go_loopw [8, 2] (fun kv av wr2 => ∃ k : Nat, kv = .int .i64 (k : Int) ∧ av = .int .i64 (x : Int) ∧ k ≤ ln ∧ Hid ((∀ y, y ∈ (F x).take k → ¬ Ds F y r b) ∧ Gl1 w F a b d x (r + 1) m (.slice o m c) wr2)) (fun kv _ _ => ln - (intOf kv).toNat)
      case atStart => exact ⟨0, rfl, rfl, Nat.zero_le _, fun y hy => by simp at hy, HI.out⟩
      case round =>
        obtain ⟨k, rfl, rfl, hk, HJ⟩ := hrel
        obtain ⟨hN, hr, hF, hFl, hFr, cD, hf, hd, hdN⟩ := HQ.out
        obtain ⟨hln, eV, hx, -, hR'⟩ := HX.out
        have bJ := HJ.out.2.bel
        have cV := (hr.below bJ).cell x hxN |>.1
        obtain ⟨-, oV2, cV2, eV2, hVc⟩ := own_get (hr.own x hxN)
        rw [eV2, hln] at cV
        have cxx := cD _ bJ x hxN
        rw [(hf x (r + 1)).2 hx.1] at cxx
        have cxx' : wr.cell? ⟨gB, x, none⟩ = some (.int .i64 R) := by rw [← hR']; exact cxx
        by_cases hlt : k < ln
        · have hkF : k < (F x).length := by rw [hln]; exact hlt
          have hlnN : ln ≤ N := by rw [← hln]; exact hFl x
          obtain ⟨bV, rfl, hbV, hbg, hcV⟩ := hVc (Nat.lt_of_le_of_lt (Nat.zero_le _) hkF)
          obtain ⟨y, hy⟩ : ∃ y, (F x).getD k 0 = y := ⟨_, rfl⟩
          have cy := cell_belowX bJ (hcV k hkF)
          rw [hy] at cy
          have hyF : y ∈ F x := by
            rw [← hy, List.getD_eq_getElem?_getD, List.getElem?_eq_getElem hkF]
            exact List.getElem_mem _
          have hyN := hF x hxN y hyF
          have cyd := cD _ bJ y hyN
          obtain ⟨e, he⟩ : ∃ e, dV (f y) = e := ⟨_, rfl⟩
          rw [he] at cyd
          have y1' : ∀ n, (wr.drewN n).cell? ⟨g, x, none⟩ = some (.slice (some ⟨bV, 0, none⟩) ln cV2) := fun _ => cV
          have y2' : ∀ n, (wr.drewN n).cell? ⟨bV, k, none⟩ = some (.int .i64 (y : Int)) := fun _ => cy
          have y3' : ∀ n, (wr.drewN n).cell? ⟨gB, y, none⟩ = some (.int .i64 e) := fun _ => cyd
          have y4' : ∀ n, (wr.drewN n).cell? ⟨gB, x, none⟩ = some (.int .i64 R) := fun _ => cxx'
          have k0 := geI k
          have k1 := ltI hlt
          have y0 := geI y
          have y1 := ltI hyN
          have wk := wrapI k (lt9k (Nat.lt_of_lt_of_le hlt hlnN) hN)
          by_cases hit : e = (r : Int)
          · have hyd : Ds F y r b := (hf y r).1 (dV_eq.1 (he.trans hit))
            have hmin := first_least (hFr x) HJ.out.1 hkF
            rw [hy] at hmin
            have hml : m ≤ 100000000 := gl_m hx.2 hdN hN
            have hG : ∀ n, Gl1 w F a b d x (r + 1) m (.slice o m c) (wr.drewN n) := fun n => by
              obtain ⟨L, g1, g2, g3, g4⟩ := HJ.out.2
              exact ⟨L, g1, g2, own_keep2 g3 fun _ _ => rfl, g4.trans ((bel_drU wr n).mono g4.size)⟩
            have hadd := fun n => (hG n).add hyF hyd hmin hml
            have HL : Hid (m < N + 2) := gl_n hx.2 hdN
            have HN := mkHid (And.intro hadd hyN)
            subst hit
            clear hkF hlnN hN hr hF hFl hFr cD hf hd hdN hln eV hx hR' eV2 hVc hbV hbg hcV hy hyF hyN he hyd hmin hml hG hadd hk hlt HJ bJ
            go_wp2_with fail
            go_quiet (fail)
            obtain ⟨o', c', w', q1, q2⟩ := HN.out.1 nq
            have q1' : (apI 32 #[.slice o m c, .slice (some ⟨wr.heap.size, 0, none⟩) 1 1]).run Try.prog ((wr.drewN nq).alloc (.cells #[.int .i64 (y : Int)] 3)) = .ok (.slice o' (m + 1) c') w' := q1
            have HN2 := mkHid q2
            clear q2 q1
            go_wp2_with fail
            exact ⟨⟨y, r, m + 1, c', o', rfl, rfl, HN.out.2, HN2.out⟩, measLe HL.out⟩
          · have e1 : (e == (r : Int)) = false := by simpa using hit
            have HN : Hid (k < ln ∧ (∀ y, y ∈ (F x).take (k + 1) → ¬ Ds F y r b) ∧ ∀ n, Gl1 w F a b d x (r + 1) m (.slice o m c) (wr.drewN n)) := by
              refine ⟨hlt, take_all HJ.out.1 hkF (by rw [hy]; exact fun k => hit (by rw [← he]; exact dV_eq.2 ((hf y r).2 k))), fun n => ?_⟩
              obtain ⟨L, g1, g2, g3, g4⟩ := HJ.out.2
              exact ⟨L, g1, g2, own_keep2 g3 fun _ _ => rfl, g4.trans ((bel_drU wr n).mono g4.size)⟩
            clear hkF hlnN hN hr hF hFl hFr cD hf hd hdN hln eV hx hR' eV2 hVc hbV hbg hcV hy hyF hyN he hk hlt HJ bJ
            go_wp2_with fail
            go_quiet (fail)
            go_wp2_with fail
            exact ⟨⟨k + 1, by first | (rw [wk]; rfl) | rfl, rfl, HN.out.1, HN.out.2.1, HN.out.2.2 _⟩, by first | (rw [wk]; exact measI _ _ HN.out.1) | exact measI _ _ HN.out.1⟩
        · exfalso
          obtain ⟨z, z1, z2⟩ := ds_front hx.1
          have h := HJ.out.1
          rw [eqI hk hlt, ← hln, List.take_length] at h
          exact h z z1 z2
end Go.Proofs.Ytgedmfcfhdfoeaa
