/- Graphs: components. -/
import Derived.Test.YtibhjkmbbfgnpaaJaB
import Derived.Test.YtibhjkmbbfgnpaaGxG
import Derived.Deep.Cut
import Derived.Handy
namespace Go.Proofs.Ytibhjkmbbfgnpaa
open Go.RowKit GM
set_option maxRecDepth 20000
/-- While the first pass goes. -/
structure Ck (Y : World) (F : Nat → List Nat) (N b i ne : Nat) (ev : Value) (E M : List Nat) (w : World) : Prop where
  ke : Ke F N E
  al : ∀ j, j < i → j ∈ E
  mks : Mks w b M
  mm : ∀ x, x ∈ M ↔ x ∈ E
  ml : M.length = E.length
  en : w.ownsRow Y.heap.size 3 1 ev ne (ik E).toList
  frm : Rm.Frm (fun k => k = b) Y w
  lb : b < Y.heap.size
/-- Needs as they lie. -/
structure Nr (F : Nat → List Nat) (N g : Nat) (gv : Nat → Nat) (V : Nat → Value) (w : World) : Prop where
  ro : ∀ v, v < N → w.cell? ⟨g, v, none⟩ = some (V v) ∧ Ilc (gv v) (V v) (F v) w
  hF : ∀ v, v < N → ∀ x ∈ F v, x < N
  hl : ∀ v, v < N → (F v).length ≤ N
theorem Il.lt0 {g : Nat} {v : Value} {l : List Nat} {w : World} (h : Il g v l w) (hp : 0 < l.length) : g < w.heap.size := by
  obtain ⟨o, c, -, h1⟩ := h
  obtain ⟨_, -, h2, -⟩ := h1 hp
  exact h2
theorem Nr.keep {F : Nat → List Nat} {N g : Nat} {gv : Nat → Nat} {V : Nat → Value} {w w' : World} (h : Nr F N g gv V w) (hs : w.heap.size ≤ w'.heap.size) (hb : ∀ k, k < w.heap.size → w'.heap[k]? = w.heap[k]?) : Nr F N g gv V w' :=
  ⟨fun v hv => ⟨(World.cell?_of_block (w := w) (a := ⟨g, v, none⟩) (hb g (World.block_lt_of_cell? w _ (h.ro v hv).1))).trans (h.ro v hv).1, (h.ro v hv).2.il.keep0 hs fun hp => hb _ ((h.ro v hv).2.il.lt0 hp), (h.ro v hv).2.cp⟩, h.hF, h.hl⟩
/-- What appendEnded asks, where the needs lie below all that it changes. -/
theorem eh_of {w w1 : World} {F : Nat → List Nat} {N B0 b g : Nat} {gv : Nat → Nat} {V : Nat → Value} {ev0 : Value} {M0 E0 : List Nat} {n0 a : Nat} (h : Nr F N g gv V w) (hs : w.heap.size ≤ w1.heap.size) (hk : ∀ k, k < w.heap.size → w1.heap[k]? = w.heap[k]?) (hb : w.heap.size ≤ b) (he : ∀ k, ev0.ownBlock = some k → w.heap.size ≤ k)
    (en : w1.ownsRow B0 3 1 ev0 n0 (ik E0).toList) (hB : B0 ≤ w1.heap.size) (me : Mks w1 b M0) (cl : ∀ u, u ∈ M0 → ∀ x, x ∈ F u → x ∈ M0) (aN : a < N) (hN : N ≤ 100000) (m0 : M0.length ≤ 1000000) (e0 : E0.length ≤ 1000000) : Eh w1 F N B0 b g gv V ev0 M0 E0 n0 a := by
  have hr := h.keep hs hk
  have hg : g < w.heap.size := World.block_lt_of_cell? w _ (h.ro a aN).1
  exact ⟨en, hB, me, cl, aN, by omega, hr.ro, hr.hF, hr.hl, ⟨by omega, fun e => by have := he g e; omega⟩, fun v hv hp => by
    have := (h.ro v hv).2.il.lt0 hp
    exact ⟨by omega, fun e => by have := he _ e; omega⟩, m0, e0⟩
/-- One more is gone through. -/
theorem Ck.step {Y wr w' : World} {F : Nat → List Nat} {N b i ne : Nat} {ev : Value} {E M : List Nat} (h : Ck Y F N b i ne ev E M wr) (hF : ∀ v, v < N → ∀ x ∈ F v, x < N) (hi : i < N) {e : Ending} (hp : EnP wr F Y.heap.size b ev M E i e w') : ∃ o n c E' M', e = .returned (.slice o n c) ∧ Ck Y F N b (i + 1) n (.slice o n c) E' M' w' := by
  obtain ⟨L, n, v', M', rfl, hL, ho, hm, hM, hl, hf, hn⟩ := hp
  obtain ⟨o, c, rfl⟩ := own_size ho
  have e1 : (fun x => x ∈ M) = fun x => x ∈ E := funext fun x => propext (h.mm x)
  rw [e1] at hL
  obtain ⟨k1, k2⟩ := h.ke.add hF hi hL
  refine ⟨o, n, c, E ++ L, M', rfl, k1, fun j hj => ?_, hm, fun x => by rw [hM x, h.mm x, List.mem_append], by rw [hl, h.ml, List.length_append], ho, ?_, h.lb⟩
  · by_cases q : j = i
    · rw [q]; exact k2
    · exact List.mem_append.2 (.inl (h.al j (by omega)))
  · have s1 := h.frm.size
    exact ⟨hf.os.trans h.frm.os, hf.tape.trans h.frm.tape, hf.output.trans h.frm.output, Nat.le_trans s1 hf.size, fun k hk hx => (hf.blk k (Nat.lt_of_lt_of_le hk s1) (fun q => by
      rcases q with q | q
      · exact hx q
      · have := (h.en.lt k q).1
        omega)).trans (h.frm.blk k hk hx)⟩
set_option maxRecDepth 100000 in
/-- Backward. -/
theorem backw_any (w : World) (o : Option Addr) (n c : Nat) : Calls Try.prog 88 #[.slice o n c] w fun e w' => e = .returned (.func (.func 100) #[] #[.pointer (some ⟨w.heap.size, 0, none⟩)]) ∧ w' = w.alloc (.cells #[.slice o n c] 28) := by
  go_enter Try.func88, Try.ntmps88
  go_wp2_with fail
  go_ret
  exact ⟨rfl, rfl⟩
attribute [local go_sem] Oper.semAt_some
attribute [local go_sem ↓] toApP toClS
set_option maxRecDepth 100000 in
set_option maxHeartbeats 6400000 in
theorem comps_any (w : World) {F G : Nat → List Nat} {N g1 g2 gn : Nat} {gv1 gv2 : Nat → Nat} {V1 V2 : Nat → Value} {vn : Value} (h1 : Nr F N g1 gv1 V1 w) (h2 : Nr G N g2 gv2 V2 w) (hn : Il gn vn (List.range N) w) (hN : N ≤ 100000) (hG : ∀ x y, y ∈ F x ↔ x ∈ G y) :
    Calls Try.prog 73 #[vn, nOf g1 N, nOf g2 N] w fun e w' => ∃ o n c Ps vs, e = .returned (.slice o n c) ∧ Pl w.heap.size (.slice o n c) n Ps vs w' ∧ Scc F N Ps ∧ Below w.heap.size w w' := by
  obtain ⟨on, cn, rfl, hnc⟩ := hn
  rw [List.length_range] at hnc ⊢
  obtain ⟨W0, hW0⟩ : ∃ A, w.alloc (.cells #[nOf g2 N] 66) = A := ⟨_, rfl⟩
  have b0 : Below w.heap.size w W0 := by rw [← hW0]; exact (Below.refl _ w).alloc (Nat.le_refl _) _
  have r0 : W0.heap[w.heap.size]? = some (.cells #[nOf g2 N] 66 (0, 0)) := by rw [← hW0]; exact heap_alloc_new _ _
  have s0 : W0.heap.size = w.heap.size + 1 := by rw [← hW0]; simp
  have hmm : (Instr.makeMap 86 none).run Try.prog W0 = .ok (.map (some W0.heap.size)) (W0.alloc (.map #[] 0)) := run_makeMap _ _
  obtain ⟨W1, hW1⟩ : ∃ A, W0.alloc (.map #[] 0) = A := ⟨_, rfl⟩
  have m1 : Mks W1 W0.heap.size [] := by rw [← hW1]; exact mks_made W0
  have b1 : Below W0.heap.size W0 W1 := by rw [← hW1]; exact (Below.refl _ W0).alloc (Nat.le_refl _) _
  have s1 : W1.heap.size = W0.heap.size + 1 := by rw [← hW1]; simp
  rw [hW1] at hmm
  obtain ⟨Y, hY⟩ : ∃ A, W1.alloc (.cells #[.map (some W0.heap.size)] 86) = A := ⟨_, rfl⟩
  have b2 : Below W1.heap.size W1 Y := by rw [← hY]; exact (Below.refl _ W1).alloc (Nat.le_refl _) _
  have r2 : Y.heap[W1.heap.size]? = some (.cells #[.map (some W0.heap.size)] 86 (0, 0)) := by rw [← hY]; exact heap_alloc_new _ _
  have s2 : Y.heap.size = W1.heap.size + 1 := by rw [← hY]; simp
  obtain ⟨kf, hkf⟩ : ∃ k, w.heap.size = k := ⟨_, rfl⟩
  obtain ⟨b, hb⟩ : ∃ k, W0.heap.size = k := ⟨_, rfl⟩
  obtain ⟨km, hkm⟩ : ∃ k, W1.heap.size = k := ⟨_, rfl⟩
  have bY : Below w.heap.size w Y := b0.trans ((b1.trans (b2.mono b1.size)).mono b0.size)
  have rf : Y.heap[kf]? = some (.cells #[nOf g2 N] 66 (0, 0)) := by rw [← hkf]; exact (b2.block _ (by omega)).trans ((b1.block _ (by omega)).trans r0)
  have HCk : Hid (Ck Y F N b 0 0 (.slice none 0 0) [] [] Y) := ⟨ke_zero F N, fun j hj => by omega, by rw [← hb]; exact m1.keep (b2.block _ m1.lt), fun x => Iff.rfl, rfl, by simpa [ik] using World.ownsRow_nil Y Y.heap.size 3 1, Rm.Frm.refl _ _, by omega⟩
  rw [hb] at hY r2
  rw [hkm] at r2
  have HQ := mkHid (And.intro h1 (And.intro h2 (And.intro hnc (And.intro hN (And.intro hG (And.intro bY (And.intro rf (And.intro r2 (show w.heap.size = kf ∧ kf + 1 = b ∧ b + 1 = km ∧ km + 1 = Y.heap.size by omega)))))))))
  rw [hb] at hmm
  have e0 : w.heap.size + 1 = b := by omega
  unfold nOf at hW0
  replace hW0 := mkHid hW0
  replace hY := mkHid hY
  unfold nOf
  clear h1 h2 hnc hG b0 r0 s0 m1 b1 s1 b2 r2 s2 bY rf hW1
  refine callsIn_wide.1 (callsIn_of_wp_marks (n := 9) Try.func73 rfl trivial (wpIn_wide.2 ?_) rfl)
  simp only [Try.ntmps73, List.size_toArray, List.length_cons, List.length_nil, Nat.reduceAdd, Nat.reduceSub, Array.replicate_succ, Array.replicate_zero, List.push_toArray, List.append_toArray, List.nil_append, List.cons_append]
  go_upto_region 1 with fail
  rw [hW0.out]
  go_upto_region 2 with fail
  try rw [hkm]
  try rw [hY.out]
  clear hmm
  go_wp2_with fail
  rename_i K1 hk1
  have HK1 := mkHid hk1
  clear hk1
  go_loopw [18, 8] (fun iv ev wr => ∃ (i ne ce : Nat) (oe : Option Addr), iv = .int .i64 (i : Int) ∧ ev = .slice oe ne ce ∧ i ≤ N ∧ Hid (∃ E M, Ck Y F N b i ne (.slice oe ne ce) E M wr)) (fun iv _ _ => N - (intOf iv).toNat)
  case atStart => exact ⟨0, 0, 0, none, rfl, rfl, Nat.zero_le _, _, _, HCk⟩
  case round =>
    obtain ⟨i, ne, ce, oe, rfl, rfl, hi, HI⟩ := hrel
    obtain ⟨E, M, hck⟩ := HI.out
    obtain ⟨q1, q2, q3, q4, q5, q6, q7, q8, q9⟩ := HQ.out
    have nlt : ∀ k, k < w.heap.size → wr.heap[k]? = w.heap[k]? := fun k hk => (hck.frm.blk k (by omega) (by omega)).trans (q6.block k hk)
    by_cases hlt : i < N
    · have i1 := ltI hlt
      have i0 := geI i
      obtain ⟨off, rfl, hgn, hcc⟩ := q3 (Nat.lt_of_le_of_lt (Nat.zero_le _) hlt)
      have cv : wr.cell? ⟨gn, off + i, none⟩ = some (.int .i64 (i : Int)) := by
        refine (World.cell?_of_block (w := w) (a := ⟨gn, off + i, none⟩) (nlt gn hgn)).trans ((hcc i hlt).trans ?_)
        simp [List.getD, hlt]
      have hEl : E.length ≤ N := nodup_len N _ hck.ke.nd hck.ke.lt
      have sz : w.heap.size ≤ wr.heap.size := Nat.le_trans q6.size hck.frm.size
      have C := ended_any wr (eh_of q1 sz nlt (by omega) (fun k hk => by have := (hck.en.lt k hk).1; omega) hck.en hck.frm.size hck.mks (fun u hu x hx => (hck.mm x).2 (hck.ke.cl u ((hck.mm u).1 hu) x hx)) hlt q4 (by rw [hck.ml]; omega) (by omega))
      have cm : wr.cell? ⟨km, 0, none⟩ = some (.map (some b)) := (World.cell?_of_block (w := Y) (a := ⟨km, 0, none⟩) (hck.frm.blk km (by omega) (by omega))).trans ((cell_of_row _ _ _ _ _ _ q8).trans rfl)
      have hw1 := wrapI i (by omega)
      have HS := mkHid (And.intro hck (And.intro q1.hF hlt))
      unfold nOf at C
      clear hck q1 q2 q3 q4 q5 q6 q7 q8 q9 nlt hlt hgn hcc hEl sz HI
      go_wp2_with fail
      refine C.mono ?_
      rintro e w5 hp
      obtain ⟨o', n', c', E', M', rfl, hck'⟩ := HS.out.1.step HS.out.2.1 HS.out.2.2 hp
      have HN := mkHid (And.intro HS.out.2.2 hck')
      clear C hp hck' HS cv cm
      dsimp only
      go_wp2_with fail
      exact ⟨⟨i + 1, n', c', o', by simp, rfl, HN.out.1, _, _, HN.out.2⟩, by first | exact measI _ _ HN.out.1 | (rw [hw1]; exact measI _ _ HN.out.1)⟩
    · have i1 := nltI hlt
      rw [eqI hi hlt] at hck
      have hall : ∀ x, x < N → x ∈ E := hck.al
      have sz : w.heap.size ≤ wr.heap.size := Nat.le_trans q6.size hck.frm.size
      have cm : wr.cell? ⟨km, 0, none⟩ = some (.map (some b)) := (World.cell?_of_block (w := Y) (a := ⟨km, 0, none⟩) (hck.frm.blk km (by omega) (by omega))).trans ((cell_of_row _ _ _ _ _ _ q8).trans rfl)
      obtain ⟨w2, rcl, mk2, fr2⟩ := hck.mks.clear 0
      have fY2 : Rm.Frm (fun k => k = b) Y w2 := hck.frm.trans fr2
      have en2 : w2.ownsRow Y.heap.size 3 1 (.slice oe ne ce) ne (ik E).toList := own_keep2 hck.en fun k hk => fr2.blk k (hck.en.lt k hk).2 (by have := (hck.en.lt k hk).1; have := hck.lb; omega)
      obtain ⟨w3, hw3⟩ : ∃ A, w2.alloc (.cells #[.slice none 0 0] 42) = A := ⟨_, rfl⟩
      have b23 : Below w2.heap.size w2 w3 := by rw [← hw3]; exact (Below.refl _ w2).alloc (Nat.le_refl _) _
      have r3 : w3.heap[w2.heap.size]? = some (.cells #[.slice none 0 0] 42 (0, 0)) := by rw [← hw3]; exact heap_alloc_new _ _
      have s3 : w3.heap.size = w2.heap.size + 1 := by rw [← hw3]; simp
      have CB := backw_any w3 oe ne ce
      obtain ⟨w4, hw4⟩ : ∃ A, w3.alloc (.cells #[.slice oe ne ce] 28) = A := ⟨_, rfl⟩
      have b34 : Below w3.heap.size w3 w4 := by rw [← hw4]; exact (Below.refl _ w3).alloc (Nat.le_refl _) _
      have r4 : w4.heap[w3.heap.size]? = some (.cells #[.slice oe ne ce] 28 (0, 0)) := by rw [← hw4]; exact heap_alloc_new _ _
      have s4 : w4.heap.size = w3.heap.size + 1 := by rw [← hw4]; simp
      rw [hw4] at CB
      obtain ⟨kP, hkP⟩ : ∃ k, w2.heap.size = k := ⟨_, rfl⟩
      obtain ⟨kw, hkw⟩ : ∃ k, w3.heap.size = k := ⟨_, rfl⟩
      rw [hkP] at r3 s3
      rw [hkw] at r4 s4 CB
      have b24 : Below w2.heap.size w2 w4 := b23.trans (b34.mono b23.size)
      have en4 := own_keep2 en2 fun k hk => b24.block k (en2.lt k hk).2
      have HL := mkHid (And.intro hck.ke (And.intro hall (And.intro mk2 (And.intro fY2 (And.intro en4 (And.intro b24 (And.intro r3 (And.intro r4 (And.intro s3 (And.intro s4 (And.intro hkP (And.intro hkw (And.intro sz (And.intro b23 b34))))))))))))))
      replace hw3 := mkHid hw3
      clear hck hall mk2 fY2 en2 en4 b24 r3 r4 s3 s4 sz b23 b34 hw4 nlt q1 q2 q3 q4 q5 q6 q7 q8 q9 HI fr2 hlt
      go_wp2_with fail
      have HK2 := mkHid HK1.out
      refine HK2.out _ _ ?_
      go_upto_region 10 with fail
      rw [hw3.out]
      go_wp2_with fail
      refine Calls.mono CB ?_
      rintro e w5 ⟨rfl, rfl⟩
      clear CB rcl cm i1
      go_wp2_with fail
      have HC0 : Hid (Cp w5 F N E kP b 0 none 0 0 [] [] [] [] E [] (fun k => k = kP ∨ k = b) w5 ∧ w.heap.size ≤ kf ∧ kf < w5.heap.size ∧ km < w5.heap.size ∧ w.heap.size ≤ b ∧ w.heap.size ≤ kP ∧ w.heap.size ≤ w5.heap.size ∧ (∀ k, k < Y.heap.size → k ≠ b → w5.heap[k]? = Y.heap[k]?) ∧ Y.heap.size ≤ kP ∧ kP < kw ∧ kw < w5.heap.size ∧ E.length = ne ∧ ne ≤ N) := by
        obtain ⟨hke, hall, mk2, fY2, en4, b24, r3, r4, s3, s4, hkP, hkw, sz, b23, b34⟩ := HL.out
        obtain ⟨q1, q2, q3, q4, q5, q6, q7, q8, q9⟩ := HQ.out
        have fs := fY2.size
        have ml := mk2.lt
        have hlen : E.length = ne := by
          have := en4.1
          simpa [ik] using this
        refine ⟨⟨rfl, ?_, ?_, pl_nil w5 _, mk2.keep (b24.block b ml), List.nodup_nil, fun x => Iff.rfl, fun x hx => (by cases hx), rfl, Nat.le_refl _, fun k => ?_, fun k _ _ _ => rfl, Nat.le_refl _, ⟨by omega, by omega, by omega⟩, rfl, rfl, rfl⟩, by omega, by omega, by omega, by omega, by omega, by omega, fun k hk hx => (b24.block k (by omega)).trans (fY2.blk k hk hx), by omega, by omega, by omega, hlen, by rw [← hlen]; exact nodup_len N _ hke.nd hke.lt⟩
        · have := kq_zero F N E
          have e : (fun x => x ∈ ([] : List Nat)) = fun _ => False := funext fun x => by simp
          rw [e]
          exact this
        · exact (b34.block kP (by omega)).trans r3
        · constructor
          · rintro (q | q)
            · exact .inl q
            · exact .inr (.inl q)
          · rintro (q | q | q | ⟨v, q, -⟩)
            · exact .inl q
            · exact .inr q
            · cases q
            · cases q
      obtain ⟨gE, hilE, hgE⟩ := own_il HL.out.2.2.2.2.1
      have hit := back_iter (Da := fun k => Y.heap.size ≤ k ∧ k < w5.heap.size ∧ k ≠ kP) 8 ((cell_of_row _ _ _ _ _ _ HL.out.2.2.2.2.2.2.2.1).trans rfl) hilE ⟨by have := HC0.out; omega, by have := HC0.out; omega, by have := HC0.out; omega⟩ (fun hp => ⟨(hgE hp).1, hilE.lt0 hp, fun e => by
        obtain ⟨C', hC'⟩ := own_tyI HL.out.2.2.2.2.1 (hgE hp).2
        have := HC0.out.1.box
        rw [← e, hC'] at this
        injection this with this
        injection this with _ this
        cases this⟩) (fun k hk => hk.2.1) (by have := HC0.out; omega)
      refine wpIn_wide.1 (Rm.loop_out (F := Fence.wide) (n := 9) rfl (by decide) (gf := 100) (lb := #[.pointer (some ⟨kw, 0, none⟩)]) rfl trivial (enters_of Try.func100 (by kernel_rfl) rfl) hit (fun k hk => hk.2.1) (Below.refl _ _) (fun i x W l o o' h _ _ => h) (fun i x W l o o' h _ _ => trivial) (fun i x W h => by obtain ⟨_, _, _, _, rfl⟩ := h; rfl)
        (fun i X' U => ∃ (o : Option Addr) (n c : Nat) (Ps : List (List Nat)) (vs : List Value) (M C P Q : List Nat), Cp w5 F N E kP b i o n c Ps vs M C P Q X' U) (fun _ _ _ => False) (fun k => k = kP ∨ k = b) ?hI ?hIx ⟨_, _, _, _, _, _, _, _, _, HC0.out.1⟩ ?hX0 ?hX1 ?round ?done ?stop)
      case hI =>
        rintro i X' A A2 ⟨o, n, c, Ps, vs, M, C, P, Q, hc⟩ hg
        exact ⟨o, n, c, Ps, vs, M, C, P, Q, hc.keep hg⟩
      case hIx => exact fun _ _ _ _ h _ => h
      case hX0 =>
        rintro k (rfl | rfl)
        · exact HC0.out.1.lt.1
        · exact HC0.out.1.lt.2.1
      case hX1 =>
        rintro k (rfl | rfl) hd
        · exact hd.2.2 rfl
        · have := HQ.out.2.2.2.2.2.2.2.2
          omega
      case stop => exact fun _ _ _ h => h.elim
      case round =>
        rintro l i x X' U hi ⟨j, v, hj, hv, rfl⟩
        gi_wp2
        refine ⟨trivial, fun U2 hl hlw hlz hI hv2 hH hXl => ?_⟩
        obtain ⟨o, n, c, Ps, vs, M, C, P, Q, hc⟩ := hI
        obtain ⟨P', rfl⟩ := last_of hc.kq.e hc.iq hj hv
        obtain ⟨hC0, y1, y2, y3, y4, y5, y6, y7, y8, y9, y10, y11, y12⟩ := HC0.out
        obtain ⟨q1, q2, q3, q4, q5, q6, q7, q8, q9⟩ := HQ.out
        have hall := HL.out.2.1
        have hke := HL.out.1
        have hvE : v ∈ E := List.mem_of_getElem? hv
        have sz2 : w.heap.size ≤ U2.heap.size := Nat.le_trans y6 hc.sz
        have oY : ∀ k, k < Y.heap.size → k ≠ b → U2.heap[k]? = Y.heap[k]? := fun k hk hx => (hc.oth k (by omega) (by omega) hx).trans (y7 k hk hx)
        have nlt2 : ∀ k, k < w.heap.size → U2.heap[k]? = w.heap[k]? := fun k hk => (oY k (by omega) (by omega)).trans (q6.block k hk)
        have hCl : C.length ≤ N := nodup_len N _ hc.cn hc.cl
        have CE := ended_any U2 (eh_of (ev0 := .slice none 0 0) (B0 := w5.heap.size) (M0 := M) (E0 := []) (n0 := 0) (a := v) q2 sz2 nlt2 y4 (fun k hk => by cases hk) (by simpa [ik] using World.ownsRow_nil U2 w5.heap.size 3 1) hc.sz hc.mks (hc.kq.cl q5) (hke.lt v hvE) hN (by rw [hc.ml]; omega) (by simp))
        have cf : U2.cell? ⟨kf, 0, none⟩ = some (nOf g2 N) := (cell_of_row _ _ _ _ _ _ ((oY kf (by omega) (by omega)).trans q7)).trans rfl
        have cm : U2.cell? ⟨km, 0, none⟩ = some (.map (some b)) := (cell_of_row _ _ _ _ _ _ ((oY km (by omega) (by omega)).trans q8)).trans rfl
        have HB : Hid (∀ w6 e, EnP U2 G w5.heap.size b (.slice none 0 0) M [] v e w6 → ∃ op n' cp L M', e = .returned (.slice op n' cp) ∧ n' = L.length ∧ Cq w5 F N E kP b i o n c Ps vs C P' Q L M' (.slice op n' cp) n' v X' U2 w6) := fun w6 e hp => by
          obtain ⟨L, n', pv, M', rfl, hL, ho, hm, hM, hl2, hf, hn⟩ := hp
          obtain ⟨op, cp, rfl⟩ := own_size ho
          rw [List.nil_append] at ho
          refine ⟨op, n', cp, L, M', rfl, ?_, hc.behind hke q5 hall q2.hF hL ho hm hM hl2 (hf.wide fun k _ hk => hk.elim id fun q => by cases q) fun k hk => (hn k hk).resolve_left fun q => by cases q⟩
          have := ho.1
          simpa [ik] using this.symm
        unfold nOf at CE cf
        clear hc hC0 y1 y2 y3 y4 y5 y6 y7 y8 y9 y10 y11 y12 q1 q2 q3 q4 q5 q6 q7 q8 q9 hall hke hvE sz2 oY nlt2 hCl hl hlw hlz hv2 hH hXl hit hv hj hi
        gi_wp2
        refine ⟨trivial, CallsIn.inRound l (callsIn_wide.2 (CE.mono ?_))⟩
        rintro e w6 hp
        obtain ⟨op, n', cp, L, M', rfl, hn', hcq⟩ := HB.out w6 e hp
        clear CE hp HB cf cm
        dsimp only
        by_cases hL : L = []
        · have h0 : n' = 0 := by rw [hn', hL]; rfl
          subst h0
          have HN := mkHid (And.intro hcq.frm (And.intro (hcq.empty hL) (And.intro hcq.plU hcq)))
          clear hcq hn' hL
          gi_wp2
          exact ⟨X', HN.out.1.wide (fun _ _ h => .inl h), fun k hk => ⟨.inl hk, HN.out.2.1.lim hk⟩, ⟨o, n, c, Ps, vs, M', C ++ L, P', v :: Q, HN.out.2.1⟩, trivial⟩
        · have hLp : 0 < L.length := List.length_pos_iff.2 hL
          have n0 : (0 : Int) < (n' : Int) := by omega
          have n1 : 0 < n' := by omega
          obtain ⟨o', c', w7, r1, rk, X2, f2, g2', hc2⟩ := hcq.more hL hN
          have c1 : w6.cell? ⟨kP, 0, none⟩ = some (.slice o n c) := (cell_of_row _ _ _ _ _ _ hcq.box).trans rfl
          have c1n := (World.cell?_of_block (w := w6) (a := ⟨kP, 0, none⟩) (heap_alloc_old w6 (.cells #[.slice op n' cp] 28) (h := (Array.getElem?_eq_some_iff.1 hcq.box).1))).trans c1
          have c2 : w7.cell? ⟨kP, 0, none⟩ = some (.slice o n c) := (cell_of_row _ _ _ _ _ _ rk).trans rfl
          have f2f : w7.frozen? ⟨kP, 0, none⟩ = false := frozen_of_row _ _ _ _ _ rk
          have HR := mkHid (And.intro f2 (And.intro g2' hc2))
          clear f2 g2' hc2 hcq rk hn' hL hLp
          gi_wp2
          obtain ⟨q1, q2, q3⟩ := HR.out
          exact ⟨X2, q1.wide (fun _ _ h => .inl h), q2, ⟨o', n + 1, c', _, _, M', C ++ L, P', v :: Q, q3⟩, trivial⟩
      case done =>
        rintro X' U ⟨o, n, c, Ps, vs, M, C, P, Q, hc⟩ hF hG2 hK
        obtain ⟨hC0, y1, y2, y3, y4, y5, y6, y7, y8, y9, y10, y11, y12⟩ := HC0.out
        obtain ⟨q1, q2, q3, q4, q5, q6, q7, q8, q9⟩ := HQ.out
        have hP : P = [] := by
          have h1 := congrArg List.length hc.kq.e
          rw [List.length_append, hc.iq] at h1
          exact List.eq_nil_of_length_eq_zero (by omega)
        have hS : Scc F N Ps := by
          have := hc.kq
          rw [hP] at this
          exact this.done HL.out.1 q5 HL.out.2.1 q2.hF
        have hF0 : w5.os = w.os ∧ w5.tape = w.tape ∧ w5.output = w.output := by
          obtain ⟨-, -, -, fY2, -, b24, -⟩ := HL.out
          exact ⟨b24.os.trans (fY2.os.trans q6.os), b24.tape.trans (fY2.tape.trans q6.tape), b24.output.trans (fY2.output.trans q6.output)⟩
        have hb : Below w.heap.size w U := by
          refine ⟨hc.os.trans (hF0.1), hc.tp.trans hF0.2.1, hc.ot.trans hF0.2.2, Nat.le_trans y6 hc.sz, fun k hk => (hc.oth k (by omega) (by omega) (by omega)).trans ((y7 k (by omega) (by omega)).trans (q6.block k hk))⟩
        have c1 : U.cell? ⟨kP, 0, none⟩ = some (.slice o n c) := (cell_of_row _ _ _ _ _ _ hc.box).trans rfl
        have HD := mkHid (And.intro hS (And.intro hb (And.intro hc.pl (And.intro y6 hK))))
        clear hc hF hG2 hK hP hS hb hC0 y1 y2 y3 y4 y5 y6 y7 y8 y9 y10 y11 y12 q1 q2 q3 q4 q5 q6 q7 q8 q9 hit
        go_wp2_with fail
        obtain ⟨hS, hb, hp, y6, hK⟩ := HD.out
        refine ⟨by simp, .inl ⟨_, _, rfl, run_takeDeferred hK, ?_⟩⟩
        have hne : ∀ k, plB (.slice o n c) vs k → k ≠ w5.heap.size := fun k hk e => by
          subst e
          rcases hk with q | ⟨u, q1, q2⟩
          · obtain ⟨C', hC'⟩ := own_tyV hp.row q
            rw [hK] at hC'
            cases hC'
          · obtain ⟨p, m, -, ho⟩ := hp.one q1
            obtain ⟨C', hC'⟩ := own_tyV ho q2
            rw [hK] at hC'
            cases hC'
        refine ⟨.slice o n c, ?_, o, n, c, Ps, vs, rfl, (hp.keep fun k hk => World.putObj_heap_other (hne k hk)).base y6, hS, ⟨hb.os, hb.tape, hb.output, by simpa [World.putObj] using hb.size, fun k hk => (World.putObj_heap_other (by omega)).trans (hb.block k hk)⟩⟩
        simp [results, Try.f73, go_sem]
end Go.Proofs.Ytibhjkmbbfgnpaa
