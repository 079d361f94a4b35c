/- Graphs searched: Each and Close of any roots, of none too. -/
import Derived.Test.YtgedmfcfhdfoeaaGyG
import Derived.Shelf.Slices.In.SortNone
namespace Go.Proofs.Ytgedmfcfhdfoeaa
open Go.RowKit GM
set_option maxRecDepth 20000
theorem clone_gen (w : World) {g : Nat} {v : Value} {S : List Nat} (h : Il g v S w) (_ : True) (hb : S.length ≤ 1000000000) :
    Calls Try.prog 45 #[v] w fun e w' => ∃ o c, e = .returned (.slice o S.length c) ∧ w'.ownsRow w.heap.size 3 1 (.slice o S.length c) S.length (ik S).toList ∧ Below w.heap.size w w' := by
  by_cases hp : 0 < S.length
  · exact clone_any w h hp hb
  · have h0 : S = [] := List.length_eq_zero_iff.1 (by omega)
    subst h0
    obtain ⟨o, c, rfl, -⟩ := h
    cases o with
    | none =>
      refine (Any.slices_Clone_int_nil Try.cloneI 0 c w).mono ?_
      rintro e w' ⟨rfl, rfl⟩
      exact ⟨none, 0, rfl, World.ownsRow_nil _ _ _ _, Below.refl _ _⟩
    | some a =>
      refine (Any.slices_Clone_int_zero Try.cloneI a c w).mono ?_
      rintro e w' ⟨v', rfl, ho, -, hb⟩
      obtain ⟨o', c', rfl⟩ := own_size ho
      exact ⟨o', c', rfl, ho, hb⟩
theorem sort_gen (w : World) {B n : Nat} {v : Value} {l : List Nat} (h : w.ownsRow B 3 1 v n (ik l).toList) (hl2 : l.length < 1000000000) :
    Calls Try.prog 40 #[v] w fun e w' => e = .returned (.tuple #[]) ∧ w'.ownsRow B 3 1 v n (ik (srt l)).toList ∧ Rm.Frm (fun k => v.ownBlock = some k) w w' := by
  by_cases hp : 0 < l.length
  · exact sort_any w h hp hl2
  · have h0 : l = [] := List.length_eq_zero_iff.1 (by omega)
    subst h0
    obtain ⟨o, c, rfl⟩ := own_size h
    have hn : n = 0 := by
      obtain ⟨h1, -⟩ := h
      simpa [ik] using h1.symm
    subst hn
    refine (Any.slices_Sort_int_none Try.sortI o c w).mono ?_
    rintro e w' ⟨rfl, rfl⟩
    exact ⟨rfl, by simpa [srt] using h, rfl, rfl, rfl, Nat.le_refl _, fun _ _ _ => rfl⟩
set_option maxRecDepth 100000 in
set_option maxHeartbeats 6400000 in
theorem each_gen (N : Nat) (hN : N ≤ 8192) (E : List (Nat × Nat)) (hE : ∀ e ∈ E, e.1 < N ∧ e.2 < N) (hn : E.length ≤ 1048576) (v : Value) (w : World) (hv : El v (zE E) w) (hc : (chk (N : Int) (zE E)).1 = 0) {g0 : Nat} {rv : Value} {S : List Nat} (hr : Il g0 rv S w) (hS : ∀ x ∈ S, x < N) (hSp : True) (hSl : S.length < 10000000) :
    Calls Try.prog 17 #[grV (N : Int) v, rv] w fun e w' => ∃ a b g gs gv V sv, e = .returned (.func (.func 46) #[] #[.pointer (some ⟨a, 0, none⟩), .pointer (some ⟨b, 0, none⟩)]) ∧ Below w.heap.size w w' ∧ Eas (fun k => w.heap.size ≤ k ∧ k < w'.heap.size) a b g N gs gv (ndF N E) V sv S w' := by
  obtain ⟨W0, hW0⟩ : ∃ W0, w.alloc (.cells #[.int .i64 (N : Int), v] 24) = W0 := ⟨_, rfl⟩
  have b0 : Below w.heap.size w W0 := by rw [← hW0]; exact (Below.refl _ w).alloc (Nat.le_refl _) _
  have r0 : W0.heap[w.heap.size]? = some (.cells #[.int .i64 (N : Int), v] 24 (0, 0)) := by rw [← hW0]; exact heap_alloc_new _ _
  have C := checkWith_roots N E v W0 (hv.below b0) hc (hr.keep0 b0.size fun hp => b0.block _ (hr.lt hp)) hS (by omega)
  obtain ⟨kg, hkg⟩ : ∃ k, w.heap.size = k := ⟨_, rfl⟩
  obtain ⟨o, c, rfl, hrc⟩ := id hr
  have HQ := mkHid (And.intro b0 (And.intro r0 (And.intro hv (And.intro hr (And.intro hS (And.intro hSp (And.intro hSl (And.intro hkg (And.intro hN (And.intro hE hn))))))))))
  obtain ⟨m, hm⟩ : ∃ m, S.length = m := ⟨_, rfl⟩
  rw [hm] at C ⊢
  have c0 : W0.cell? ⟨kg, 0, none⟩ = some (.int .i64 (N : Int)) := by rw [← hkg]; exact (cell_of_row _ _ _ _ _ _ r0).trans rfl
  have c1 : W0.cell? ⟨kg, 1, none⟩ = some v := by rw [← hkg]; exact (cell_of_row _ _ _ _ _ _ r0).trans rfl
  unfold grV at C ⊢
  replace hW0 := mkHid hW0
  clear b0 r0 hv hr hS hSp hSl hN hE hn hc hrc
  go_enter Try.func17, Try.ntmps17
  go_wp2_with fail
  rw [hW0.out]
  refine Calls.mono C ?_
  rintro e W1 ⟨rfl, b1⟩
  have HB1 : Hid (Below w.heap.size w W1 ∧ W1.heap[w.heap.size]? = some (.cells #[.int .i64 (N : Int), v] 24 (0, 0))) := ⟨HQ.out.1.trans (b1.mono HQ.out.1.size), (b1.block _ (Array.getElem?_eq_some_iff.1 HQ.out.2.1).1).trans HQ.out.2.1⟩
  have d0 : W1.cell? ⟨kg, 0, none⟩ = some (.int .i64 (N : Int)) := cell_belowX b1 c0
  have d1 : W1.cell? ⟨kg, 1, none⟩ = some v := cell_belowX b1 c1
  clear C b1 c0 c1
  go_wp2_with fail
  have CN := needsOf_new N HQ.out.2.2.2.2.2.2.2.2.1 E HQ.out.2.2.2.2.2.2.2.2.2.1 (by have := HQ.out.2.2.2.2.2.2.2.2.2.2; omega) v W1 (HQ.out.2.2.1.below HB1.out.1)
  refine Calls.mono CN ?_
  rintro e W2 ⟨g, V, rfl, hrw, b12, hg2⟩
  have HB2 : Hid (Below w.heap.size w W2) := HB1.out.1.trans (b12.mono HB1.out.1.size)
  have CC := clone_gen W2 (HQ.out.2.2.2.1.keep0 HB2.out.size fun hp => HB2.out.block _ (HQ.out.2.2.2.1.lt hp)) HQ.out.2.2.2.2.2.1 (by have := HQ.out.2.2.2.2.2.2.1; omega)
  rw [hm] at CC
  have HR := mkHid hrw
  have HG2 : Hid (w.heap.size ≤ g) := Nat.le_trans HB1.out.1.size hg2
  clear CN b12 hrw d0 d1 hg2
  go_wp2_with fail
  refine Calls.mono CC ?_
  rintro e W3 ⟨os, cs, rfl, ho, b23⟩
  have HB3 : Hid (Below w.heap.size w W3) := HB2.out.trans (b23.mono HB2.out.size)
  have HR3 : Hid (Rws g N (ndF N E) V W3 ∧ W3.ownsRow W2.heap.size 3 1 (.slice os m cs) m (ik S).toList) := ⟨HR.out.below b23, ho⟩
  clear CC ho b23 HR
  go_wp2_with fail
  go_ret
  have b3 : Below W3.heap.size W3 ((W3.alloc (.cells #[.slice (some ⟨g, 0, none⟩) N N] 54)).alloc (.cells #[.slice os m cs] 32)) := ((Below.refl _ W3).alloc (Nat.le_refl _) _).alloc (by simp) _
  have e1 := heap_alloc_new W3 (.cells #[.slice (some ⟨g, 0, none⟩) N N] 54)
  have e2 := heap_alloc_new (W3.alloc (.cells #[.slice (some ⟨g, 0, none⟩) N N] 54)) (.cells #[.slice os m cs] 32)
  rw [World.size_alloc] at e2
  have e1' := (Below.heap_alloc (W3.alloc (.cells #[.slice (some ⟨g, 0, none⟩) N N] 54)) (.cells #[.slice os m cs] 32) W3.heap.size (by simp)).trans e1
  obtain ⟨gv, hgv⟩ := rws_ro (HR3.out.1.below b3)
  obtain ⟨gs, hI, hgs⟩ := own_il HR3.out.2
  have s3 := HB3.out.size
  have s2 := HB2.out.size
  have hI2 := hI.keep0 b3.size fun hp => b3.block _ (hI.lt hp)
  exact ⟨_, _, g, gs, gv, V, _, rfl, HB3.out.trans (b3.mono HB3.out.size), (cell_of_row _ _ _ _ _ _ e2).trans rfl, (cell_of_row _ _ _ _ _ _ e1').trans rfl, hI2, fun v hv => ⟨(hgv v hv).1, (hgv v hv).2.1⟩, ⟨by omega, (Array.getElem?_eq_some_iff.1 e2).1⟩, ⟨by omega, (Array.getElem?_eq_some_iff.1 e1').1⟩, fun hp => ⟨by have := (hgs hp).1; omega, hI2.lt hp⟩, ⟨HG2.out, (HR3.out.1.below b3).lt⟩, fun v hv hp => ⟨by have := (hgv v hv).2.2 hp; have := HG2.out; omega, (hgv v hv).2.1.lt hp⟩⟩
attribute [local go_sem] Oper.semAt_some
attribute [local go_sem ↓] toApI
set_option maxRecDepth 100000 in
set_option maxHeartbeats 6400000 in
theorem close_gen (N : Nat) (hN : N ≤ 8192) (E : List (Nat × Nat)) (hE : ∀ e ∈ E, e.1 < N ∧ e.2 < N) (hn : E.length ≤ 1048576) (v : Value) (w : World) (hv : El v (zE E) w) (hc : (chk (N : Int) (zE E)).1 = 0) {g0 : Nat} {rv : Value} {S : List Nat} (hr : Il g0 rv S w) (hS : ∀ x ∈ S, x < N) (hSp : True) (hSl : S.length < 10000000)
    {K : Nat} (hK : (lyr (ndF N E) S K).1 = []) (hK' : ∀ i, i < K → (lyr (ndF N E) S i).1 ≠ []) (hKb : K ≤ 10000000) (hL : (eaL (ndF N E) S K).length ≤ 1000000) (hLp : True) :
    Calls Try.prog 14 #[grV (N : Int) v, rv] w fun e w' => ∃ o n c, e = .returned (.tuple #[.slice o n c, .int .i64 0]) ∧ w'.ownsRow w.heap.size 3 1 (.slice o n c) n (ik (srt ((eaL (ndF N E) S K).map Prod.fst))).toList ∧ Below w.heap.size w w' := by
  obtain ⟨W0, hW0⟩ : ∃ W0, w.alloc (.cells #[.int .i64 (N : Int), v] 24) = W0 := ⟨_, rfl⟩
  have b0 : Below w.heap.size w W0 := by rw [← hW0]; exact (Below.refl _ w).alloc (Nat.le_refl _) _
  have r0 : W0.heap[w.heap.size]? = some (.cells #[.int .i64 (N : Int), v] 24 (0, 0)) := by rw [← hW0]; exact heap_alloc_new _ _
  have C := checkWith_roots N E v W0 (hv.below b0) hc (hr.keep0 b0.size fun hp => b0.block _ (hr.lt hp)) hS (by omega)
  obtain ⟨kg, hkg⟩ : ∃ k, w.heap.size = k := ⟨_, rfl⟩
  obtain ⟨o, c, rfl, hrc⟩ := id hr
  have HQ := mkHid (And.intro b0 (And.intro r0 (And.intro hv (And.intro hr (And.intro hS (And.intro hSp (And.intro hSl (And.intro hkg (And.intro hN (And.intro hE (And.intro hn hc)))))))))))
  have HL := mkHid (And.intro hK (And.intro hK' (And.intro hKb (And.intro hL hLp))))
  obtain ⟨m, hm⟩ : ∃ m, S.length = m := ⟨_, rfl⟩
  rw [hm] at C ⊢
  have c0 : W0.cell? ⟨kg, 0, none⟩ = some (.int .i64 (N : Int)) := by rw [← hkg]; exact (cell_of_row _ _ _ _ _ _ r0).trans rfl
  have c1 : W0.cell? ⟨kg, 1, none⟩ = some v := by rw [← hkg]; exact (cell_of_row _ _ _ _ _ _ r0).trans rfl
  have HM : Hid (S.length = m) := hm
  unfold grV at C ⊢
  replace hW0 := mkHid hW0
  clear b0 r0 hv hr hS hSp hSl hN hE hn hc hrc hK hK' hKb hL hLp hm
  refine callsIn_wide.1 (callsIn_of_wp_marks (n := 9) Try.func14 rfl trivial (wpIn_wide.2 ?_) rfl)
  simp only [Try.ntmps14, List.size_toArray, List.length_cons, List.length_nil, Nat.reduceAdd, Nat.reduceSub, Array.replicate_succ, Array.replicate_zero, List.push_toArray, List.append_toArray, List.nil_append, List.cons_append]
  go_wp2_with fail
  rw [hW0.out]
  refine Calls.mono C ?_
  rintro e W1 ⟨rfl, b1⟩
  have HB1 : Hid (Below w.heap.size w W1 ∧ W1.heap[w.heap.size]? = some (.cells #[.int .i64 (N : Int), v] 24 (0, 0))) := ⟨HQ.out.1.trans (b1.mono HQ.out.1.size), (b1.block _ (Array.getElem?_eq_some_iff.1 HQ.out.2.1).1).trans HQ.out.2.1⟩
  obtain ⟨W2, hW2⟩ : ∃ W2, W1.alloc (.cells #[.slice none 0 0] 32) = W2 := ⟨_, rfl⟩
  have b2 : Below W1.heap.size W1 W2 := by rw [← hW2]; exact (Below.refl _ W1).alloc (Nat.le_refl _) _
  have r2 : W2.heap[W1.heap.size]? = some (.cells #[.slice none 0 0] 32 (0, 0)) := by rw [← hW2]; exact heap_alloc_new _ _
  have s2 : W2.heap.size = W1.heap.size + 1 := by rw [← hW2]; simp
  obtain ⟨kc, hkc⟩ : ∃ k, W1.heap.size = k := ⟨_, rfl⟩
  have d0 : W2.cell? ⟨kg, 0, none⟩ = some (.int .i64 (N : Int)) := cell_belowX b2 (cell_belowX b1 c0)
  have d1 : W2.cell? ⟨kg, 1, none⟩ = some v := cell_belowX b2 (cell_belowX b1 c1)
  have d0r := d0
  have d1r := d1
  rw [← hW2] at d0r d1r
  rw [hkc] at r2 s2
  have HB2 := mkHid (And.intro (HB1.out.1.trans (b2.mono HB1.out.1.size)) (And.intro r2 (And.intro s2 (show w.heap.size ≤ kc by rw [← hkc]; exact HB1.out.1.size))))
  have CE := each_gen N HQ.out.2.2.2.2.2.2.2.2.1 E HQ.out.2.2.2.2.2.2.2.2.2.1 HQ.out.2.2.2.2.2.2.2.2.2.2.1 v W2 (HQ.out.2.2.1.below HB2.out.1) HQ.out.2.2.2.2.2.2.2.2.2.2.2 (HQ.out.2.2.2.1.keep0 HB2.out.1.size fun hp => HB2.out.1.block _ (HQ.out.2.2.2.1.lt hp)) HQ.out.2.2.2.2.1 HQ.out.2.2.2.2.2.1 HQ.out.2.2.2.2.2.2.1
  rw [HM.out] at CE
  unfold grV at CE
  replace hW2 := mkHid hW2
  clear C b1 b2 r2 s2 c0 c1
  go_wp2_with fail
  try rw [hkc]
  try rw [hW2.out]
  refine Calls.mono CE ?_
  rintro e W3 ⟨a, b, g, gs, gv, V, sv, rfl, b23, hEas⟩
  have hb3 := HB2.out.1.trans (b23.mono HB2.out.1.size)
  have r3 := (b23.block _ (Array.getElem?_eq_some_iff.1 HB2.out.2.1).1).trans HB2.out.2.1
  have HE := mkHid (And.intro hEas (And.intro b23 (And.intro hb3 r3)))
  clear CE hEas b23 hb3 r3 d0 d1 d0r d1r
  go_wp2_with fail
  have hit := each_iter 8 (by decide) HE.out.1 (fun _ hk => hk.2) (by have := HQ.out.2.2.2.2.2.2.2.2.1; omega) HQ.out.2.2.2.2.1 (fun v _ x hx => ndF_lt v x hx) HQ.out.2.2.2.2.2.2.1 (fun v _ => by have := ndF_len (N := N) (E := E) v; have := HQ.out.2.2.2.2.2.2.2.2.1; omega) HL.out.1 HL.out.2.1 HL.out.2.2.1
  refine wpIn_wide.1 (Rm.loop_out (F := Fence.wide) (n := 9) rfl (by decide) (gf := 46) (lb := #[.pointer (some ⟨a, 0, none⟩), .pointer (some ⟨b, 0, none⟩)]) rfl trivial (enters_of Try.func46 (by kernel_rfl) rfl) hit (fun _ hk => hk.2) (Below.refl _ _) (fun i x W l o o' h _ _ => h) (fun i x W l o o' h _ _ => trivial) (fun i x W h => by obtain ⟨_, _, rfl⟩ := h; rfl)
    (fun i X' U => ∃ (o : Option Addr) (n c : Nat), Clo (kc + 1) kc (eaL (ndF N E) S K) i o n c X' U) (fun _ _ _ => False) (fun k => k = kc) ?hI ?hIx ⟨none, 0, 0, rfl, HE.out.2.2.2, by simpa [ik] using World.ownsRow_nil W3 (kc + 1) 3 1, fun k => ⟨.inl, fun q => q.elim id (fun q => by cases q)⟩, Nat.lt_succ_self _⟩ ?hX0 ?hX1 ?round ?done ?stop)
  case hI =>
    rintro i X' U U2 ⟨o, n, c, hc⟩ hg
    exact ⟨o, n, c, hc.keep fun k hk hx => hg.blk k hk (.inr hx)⟩
  case hIx => exact fun _ _ _ _ h _ => h
  case hX0 => rintro k rfl; have := HB2.out.2.2.1; have := HE.out.2.1.size; omega
  case hX1 =>
    rintro k rfl hk
    have := HB2.out.2.2.1
    omega
  case stop => exact fun _ _ _ h => h.elim
  case round =>
    rintro l i x X' U hi ⟨p, hp, rfl⟩
    gi_wp2
    refine ⟨trivial, fun U2 hl hlw hlz hI hv2 hH hXl => ?_⟩
    obtain ⟨o, n, c, hc⟩ := hI
    have hni := hc.len
    have hL := HL.out.2.2.2.1
    have hsA := HB2.out.2.2.1
    have hsB := HE.out.2.1.size
    obtain ⟨o', c', w2, r1, rk, X2, f2, g2, hc2⟩ := hc.step hp (by omega) (by omega)
    have c1 : U2.cell? ⟨kc, 0, none⟩ = some (.slice o n c) := (cell_of_row _ _ _ _ _ _ hc.row).trans rfl
    have c1n := (World.cell?_of_block (w := U2) (a := ⟨kc, 0, none⟩) (heap_alloc_old U2 (.cells #[.int .i64 (p.1 : Int)] 3) (h := (Array.getElem?_eq_some_iff.1 hc.row).1))).trans c1
    have c2 : w2.cell? ⟨kc, 0, none⟩ = some (.slice o n c) := (cell_of_row _ _ _ _ _ _ rk).trans rfl
    have f2f : w2.frozen? ⟨kc, 0, none⟩ = false := frozen_of_row _ _ _ _ _ rk
    have HR := mkHid (And.intro f2 (And.intro g2 hc2))
    clear f2 g2 hc2 hc hni hL hsA hsB rk hlw hlz hH hXl hv2 hl
    gi_wp2
    obtain ⟨q1, q2, q3⟩ := HR.out
    exact ⟨X2, q1.wide (fun _ _ h => .inl h), q2, ⟨o', _, c', q3⟩, trivial⟩
  case done =>
    rintro X' U ⟨o, n, c, hc⟩ hF hG hK
    have bU : Below w.heap.size w U := HE.out.2.2.1.trans (hF.below HE.out.2.2.1.size (fun k hk => by have := HB2.out.2.2.2; omega))
    have c1 : U.cell? ⟨kc, 0, none⟩ = some (.slice o n c) := (cell_of_row _ _ _ _ _ _ hc.row).trans rfl
    have ho := hc.own
    rw [List.take_length] at ho
    have CS := sort_gen U ho (by rw [List.length_map]; have := HL.out.2.2.2.1; omega)
    have HU := mkHid (And.intro bU (And.intro hc hK))
    clear ho bU hc hF hG hK
    go_wp2_with fail
    refine Calls.mono CS ?_
    rintro e U2 ⟨rfl, h2, f2⟩
    have hkk : ¬ (Value.slice o n c).ownBlock = some kc := fun q => by
      have := (HU.out.2.1.blkB q).1
      omega
    have c2 : U2.cell? ⟨kc, 0, none⟩ = some (.slice o n c) := (World.cell?_of_block (w := U) (a := ⟨kc, 0, none⟩) (f2.blk kc (Array.getElem?_eq_some_iff.1 HU.out.2.1.row).1 hkk)).trans c1
    have e1 : U2.heap[W3.heap.size]? = some (.deferred (some [])) := (f2.blk _ (Array.getElem?_eq_some_iff.1 HU.out.2.2).1 (fun q => by
      obtain ⟨C', hC'⟩ := own_tyI HU.out.2.1.own q
      rw [HU.out.2.2] at hC'
      cases hC')).trans HU.out.2.2
    have bU2 : Below w.heap.size w U2 := HU.out.1.trans (f2.below HU.out.1.size (fun k hk => by have := (HU.out.2.1.blkB hk).1; have := HB2.out.2.2.2; omega))
    have HV := mkHid (And.intro bU2 h2)
    clear bU2 h2 f2 CS c1
    go_wp2_with fail
    refine ⟨by simp, .inl ⟨_, _, rfl, run_takeDeferred e1, ?_⟩⟩
    obtain ⟨hb, ho⟩ := HV.out
    have hs3 := HE.out.2.2.1.size
    refine ⟨.tuple #[.slice o n c, .int .i64 0], ?_, o, n, c, rfl, own_keep2 (own_base ho (by have := HB2.out.2.2.2; omega)) (fun k hk => World.putObj_heap_other (fun e => ?_)), ⟨hb.os, hb.tape, hb.output, by simpa [World.putObj] using hb.size, fun k hk => (World.putObj_heap_other (by omega)).trans (hb.block k hk)⟩⟩
    · simp [results, Try.f14, go_sem]
    · obtain ⟨C', hC'⟩ := own_tyI ho hk
      rw [e, e1] at hC'
      cases hC'
end Go.Proofs.Ytgedmfcfhdfoeaa
