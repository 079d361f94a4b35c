/- The sieve: Rewriter, Rewrite. -/
import Derived.Test.YtceaklefdahfkaaRw5
import Derived.Test.YtceaklefdahfkaaFn5
namespace Go.Proofs.Ytceaklefdahfkaa
open Go.RowKit
theorem newC_eq (gt : Nat) (u : Value) : (((((Try.zeroCells85.setIfInBounds 0 (Value.pointer (some ⟨gt, 0, none⟩))).setIfInBounds 1 (Value.int IntKind.i32 0)).setIfInBounds 2 (Value.int IntKind.i64 0)).setIfInBounds 3 (Value.int IntKind.i64 0)).setIfInBounds 4 u) = (.pointer (some ⟨gt, 0, none⟩) :: .int .i32 ((0 : Nat) : Int) :: .int .i64 ((0 : Nat) : Int) :: .int .i64 ((0 : Nat) : Int) :: rX u 0 (List.replicate 63 0) false).toArray := by
  rw [zero85]
  rfl
/-- What Rewriter answers. -/
def RwnP (t : Tbl) (gt : Nat) (T : List ByteArray) (B : Nat) (e : Ending) (w' : World) : Prop :=
  (T.length ≠ t.values.length ∧ e = .returned (.tuple #[.pointer none, .int .i64 2])) ∨
  (T.length = t.values.length ∧ allW t.width T = false ∧ e = .returned (.tuple #[.pointer none, .int .i64 50])) ∨
  (T.length = t.values.length ∧ allW t.width T = true ∧ ∃ gr tv, e = .returned (.tuple #[.pointer (some ⟨gr, 0, none⟩), .int .i64 0]) ∧ B ≤ gr ∧ Rwt gr gt 0 0 0 tv 0 (List.replicate 63 0) w' ∧ St tv T w' ∧ tv.ownBlock ≠ some gr ∧ ∀ k, tv.ownBlock = some k → B ≤ k)
theorem rwn_new (w W2 : World) (gt : Nat) (t : Tbl) (T : List ByteArray) (u : Value) (hT : T.length = t.values.length) (hA : true = allW t.width T) (h : Below w.heap.size w W2 ∧ St u T W2 ∧ ∀ k, u.ownBlock = some k → w.heap.size ≤ k) :
    Below w.heap.size w (W2.alloc (.cells (((((Try.zeroCells85.setIfInBounds 0 (Value.pointer (some ⟨gt, 0, none⟩))).setIfInBounds 1 (Value.int IntKind.i32 0)).setIfInBounds 2 (Value.int IntKind.i64 0)).setIfInBounds 3 (Value.int IntKind.i64 0)).setIfInBounds 4 u) 85)) ∧ RwnP t gt T w.heap.size (.returned (.tuple #[.pointer (some ⟨W2.heap.size, 0, none⟩), .int .i64 0])) (W2.alloc (.cells (((((Try.zeroCells85.setIfInBounds 0 (Value.pointer (some ⟨gt, 0, none⟩))).setIfInBounds 1 (Value.int IntKind.i32 0)).setIfInBounds 2 (Value.int IntKind.i64 0)).setIfInBounds 3 (Value.int IntKind.i64 0)).setIfInBounds 4 u) 85)) := by
  obtain ⟨hb, hs, ho⟩ := h
  rw [newC_eq]
  have hbl : ∀ k, u.ownBlock = some k → k < W2.heap.size := fun k hk => by
    rcases hs with ⟨rfl, _⟩ | ⟨b, off, cap, rfl, _, _, h4, _⟩
    · cases hk
    · cases hk; exact h4
  refine ⟨hb.alloc hb.size _, .inr (.inr ⟨hT, hA.symm, W2.heap.size, u, rfl, hb.size, heap_alloc_new W2 _, hs.below ((Below.refl _ W2).alloc (Nat.le_refl _) _), fun e => ?_, ho⟩)⟩
  have := hbl _ e
  omega
set_option maxRecDepth 100000 in
set_option maxHeartbeats 1600000 in
theorem rewriter_any (g gt : Nat) (t : Tbl) (T : List ByteArray) (hTl : T.length ≤ 1048576) (tvl : Value) (w : World) (h : Sve g gt w) (ht : Tab gt t w) (hv : St tvl T w) :
    Calls Try.prog 22 #[.pointer (some ⟨g, 0, none⟩), tvl] w fun e w' => Below w.heap.size w w' ∧ RwnP t gt T w.heap.size e w' := by
  have C0 : Hid (Calls Try.prog 45 #[.pointer (some ⟨g, 0, none⟩)] w fun e w' => e = .returned (.bool false) ∧ w' = w) := none_any g gt w h
  have C1 : Hid (Calls Try.prog 15 #[.pointer (some ⟨g, 0, none⟩)] w fun e w' => e = .returned (.int .i64 (t.values.length : Int)) ∧ w' = w) := len_any g gt t w h ht
  have C2 : Hid (Calls Try.prog 21 #[.pointer (some ⟨g, 0, none⟩)] w fun e w' => e = .returned (.int .i64 (t.width : Int)) ∧ w' = w) := width_any g gt t w h ht
  have C3 : Hid (Calls Try.prog 47 #[tvl, .int .i64 (t.width : Int)] w fun e w' => e = .returned (.bool (allW t.width T)) ∧ w' = w) := allOf_any T (by omega) t.width tvl w hv
  have C4 : Hid (∀ W, Below w.heap.size w W → W.heap.size = w.heap.size → Calls Try.prog 23 #[.pointer (some ⟨g, 0, none⟩)] W fun e w' => e = .returned (.pointer (some ⟨w.heap.size, 0, none⟩)) ∧ w'.cell? ⟨w.heap.size, 0, none⟩ = some (.pointer (some ⟨gt, 0, none⟩)) ∧ w'.cell? ⟨w.heap.size, 1, none⟩ = some (.int .i32 0) ∧ w'.cell? ⟨w.heap.size, 2, none⟩ = some (.int .i64 0) ∧ w'.cell? ⟨w.heap.size, 3, none⟩ = some (.int .i64 0) ∧ Hid (Scn w.heap.size gt 0 0 0 w' ∧ Below w.heap.size w w')) := fun W hb hz => by
    have h2 : Sve g gt W := (hb.block g (Array.getElem?_eq_some_iff.1 h).1).trans h
    refine (scanner_any g gt W h2).mono ?_
    rintro e w' ⟨rfl, a, b, c⟩
    rw [hz] at a b ⊢
    exact ⟨rfl, (cell_of_row w' _ 0 _ _ _ a).trans rfl, (cell_of_row w' _ 1 _ _ _ a).trans rfl, (cell_of_row w' _ 2 _ _ _ a).trans rfl, (cell_of_row w' _ 3 _ _ _ a).trans rfl, a, hb.trans b⟩
  have C5 : Hid (∀ W, Scn w.heap.size gt 0 0 0 W ∧ Below w.heap.size w W → Calls Try.prog 48 #[tvl] W fun e w' => ∃ ou cu, e = .returned (.slice ou T.length cu) ∧ w'.cell? ⟨w.heap.size, 0, none⟩ = some (.pointer (some ⟨gt, 0, none⟩)) ∧ w'.cell? ⟨w.heap.size, 1, none⟩ = some (.int .i32 0) ∧ w'.cell? ⟨w.heap.size, 2, none⟩ = some (.int .i64 0) ∧ w'.cell? ⟨w.heap.size, 3, none⟩ = some (.int .i64 0) ∧ Hid (Below w.heap.size w w' ∧ St (.slice ou T.length cu) T w' ∧ ∀ k, (Value.slice ou T.length cu).ownBlock = some k → w.heap.size ≤ k)) := fun W ⟨ha, hb⟩ => by
    refine (clone_any T hTl tvl W (hv.below hb)).mono ?_
    rintro e w' ⟨u, rfl, a, b, c⟩
    have hz : w.heap.size < W.heap.size := (Array.getElem?_eq_some_iff.1 ha).1
    have ha' := (b.block _ hz).trans ha
    obtain ⟨ou, cu, rfl, -⟩ := a.form
    exact ⟨ou, cu, rfl, (cell_of_row w' _ 0 _ _ _ ha').trans rfl, (cell_of_row w' _ 1 _ _ _ ha').trans rfl, (cell_of_row w' _ 2 _ _ _ ha').trans rfl, (cell_of_row w' _ 3 _ _ _ ha').trans rfl, hb.trans (b.mono hb.size), a, fun k hk => by have := c k hk; omega⟩
  obtain ⟨o, c, hof, -⟩ := hv.form
  subst hof
  clear h ht hv
  obtain ⟨bb, hbb⟩ : ∃ bb, bb = allW t.width T := ⟨_, rfl⟩
  obtain ⟨vl, hvl⟩ : ∃ vl, vl = t.values.length := ⟨_, rfl⟩
  rw [← hbb] at C3
  rw [← hvl] at C1
  have HBB : Hid (bb = allW t.width T) := hbb
  have HVL : Hid (vl = t.values.length) := hvl
  clear hbb hvl
  go_enter Try.func22, Try.ntmps22
  go_wp2_with fail
  refine Calls.mono C0.out ?_
  rintro e W ⟨rfl, rfl⟩
  clear C0
  go_wp2_with fail
  refine Calls.mono C1.out ?_
  rintro e W ⟨rfl, rfl⟩
  clear C1
  by_cases hl : T.length = vl
  · subst hl
    go_wp2_with fail
    refine Calls.mono C2.out ?_
    rintro e W ⟨rfl, rfl⟩
    clear C2
    go_wp2_with fail
    refine Calls.mono C3.out ?_
    rintro e W ⟨rfl, rfl⟩
    clear C3
    cases bb with
    | false =>
      go_wp2
      go_ret2
      exact ⟨Below.refl _ _, .inr (.inl ⟨HVL.out, HBB.out.symm, rfl⟩)⟩
    | true =>
      go_wp2_with fail
      go_region_with (first | (go_at_call 23; refine Calls.mono (C4.out _ ?_ ?_) ?_; exact Below.drewN' (Below.refl _ _) 1; rfl; rintro e W1 ⟨rfl, k0, k1, k2, k3, HK⟩) | (go_at_call 48; refine Calls.mono (C5.out _ HK.out) ?_; rintro e W2 ⟨ou, cu, rfl, j0, j1, j2, j3, HJ⟩))
      all_goals
        have HP : Hid _ := rwn_new W W2 gt t T (.slice ou T.length cu) HVL.out HBB.out HJ.out
        clear HJ HK C4 C5 j0 j1 j2 j3 k0 k1 k2 k3
        go_wp2
        go_ret2
        exact HP.out
  · have hl' : ¬ ((T.length : Int) = (vl : Int)) := by omega
    go_wp2
    go_ret2
    exact ⟨Below.refl _ _, .inl ⟨by rw [← HVL.out]; exact hl, rfl⟩⟩
theorem Si.blk {k : IntKind} {v : Value} {d : List Nat} {w : World} (h : Si k v d w) : ∀ j, v.ownBlock = some j → j < w.heap.size := fun j hj => by
  rcases h with ⟨rfl, _⟩ | ⟨b, off, cap, rfl, _, _, h4, _⟩
  · cases hj
  · cases hj; exact h4
/-- What Rewrite answers. -/
def RwP (m nv : Nat) (T : List ByteArray) (D : List Nat) (H : List (Int × Int)) (B : Nat) (e : Ending) (w' : World) : Prop :=
  (T.length ≠ nv ∧ e = .returned (.tuple #[.slice none 0 0, .int .i64 2, .int .i64 0])) ∨
  (T.length = nv ∧ allW m T = false ∧ e = .returned (.tuple #[.slice none 0 0, .int .i64 50, .int .i64 0])) ∨
  (T.length = nv ∧ allW m T = true ∧ (ovP 0 m H).2 = true ∧ e = .returned (.tuple #[.slice none 0 0, .int .i64 52, .int .i64 (ovP 0 m H).1])) ∨
  (T.length = nv ∧ allW m T = true ∧ (ovP 0 m H).2 = false ∧ ∃ v, e = .returned (.tuple #[v, .int .i64 0, .int .i64 0]) ∧ w'.ownsRow B 5 1 v D.length (ik .u8 (puts T 0 D H)).toList)
theorem allW_all {m : Nat} {T : List ByteArray} (h : allW m T = true) : ∀ s ∈ T, s.size = m := fun s hs => by
  unfold allW at h
  simpa using List.all_eq_true.1 h s hs
theorem but_below {B gr : Nat} {a b : World} (h : But gr a b) (hg : B ≤ gr) (hB : B ≤ a.heap.size) : Below B a b := ⟨h.os, h.tape, h.output, h.size, fun j hj => h.block j (by omega) (by omega)⟩
set_option maxRecDepth 100000 in
set_option maxHeartbeats 1600000 in
theorem rewrite_gen (g gt : Nat) (t : Tbl) (hwk : Wk t) (G : Nat → Prop) (hG : Gd t G) (hs0 : G 0) (m : Nat) (hwd : t.width = m) (T : List ByteArray) (hTl : T.length ≤ 1048576) (tvl dv : Value) (D : List Nat) (hDb : Byt D) (hDl : D.length ≤ 1073741824) (w : World) (h : Sve g gt w) (ht : TabK w.heap.size gt t w) (hT : St tvl T w) (hD : Si .u8 dv D w) (H : List (Int × Int)) (hH : fnd t 0 0 D = H) (hr : Rg H) (hin : ∀ x ∈ H, Hin 0 D.length m t.values.length x) (hm0 : 0 < H.length → 0 < m) :
    Calls Try.prog 20 #[.pointer (some ⟨g, 0, none⟩), dv, tvl] w fun e w' => Below w.heap.size w w' ∧ RwP m t.values.length T D H w.heap.size e w' := by
  have C1 : Hid (Calls Try.prog 22 #[.pointer (some ⟨g, 0, none⟩), tvl] w fun e w' => Below w.heap.size w w' ∧ RwnP t gt T w.heap.size e w') := rewriter_any g gt t T hTl tvl w h ht.tab hT
  have C2 : Hid (∀ gr tv W, Below w.heap.size w W → w.heap.size ≤ gr → Rwt gr gt 0 0 0 tv 0 (List.replicate 63 0) W → St tv T W → tv.ownBlock ≠ some gr → T.length = t.values.length → allW m T = true → Calls Try.prog 46 #[.pointer (some ⟨gr, 0, none⟩), dv] W fun e w' => Below w.heap.size w w' ∧
      (((ovP 0 m H).2 = true ∧ e = .returned (.tuple #[.slice none 0 0, .slice none 0 0, .int .i64 52, .int .i64 (ovP 0 m H).1])) ∨ ((ovP 0 m H).2 = false ∧ ∃ v hv, e = .returned (.tuple #[v, hv, .int .i64 0, .int .i64 0]) ∧ w'.ownsRow w.heap.size 5 1 v D.length (ik .u8 (puts T 0 D H)).toList))) := fun gr tv W hb hgr hR hTv hTg hTn hA => by
    have hblk := hD.blk
    have := take_any gr gt 0 0 0 tv 0 (List.replicate 63 0) (by simp) T m H hm0 (allW_all hA) t hwk hwd G hG hs0 (by omega) (by omega) (by omega) D hDb hDl dv W hR ((ht.keep hb.size fun j hj _ => hb.block j hj).mono hgr) (hD.below hb) (fun e => by have := hblk _ e; omega) hTv hTg hH hr (fun x hx => by
      have := hin x hx
      rw [← hTn] at this
      simpa using this)
    simp only [Nat.zero_add, Nat.sub_zero, List.take_zero, List.nil_append] at this
    refine this.mono fun e w' ⟨hbt, hc⟩ => ⟨hb.trans (but_below hbt hgr hb.size), ?_⟩
    rcases hc with ⟨x1, x2, _⟩ | ⟨x1, v, hv, x2, x3, _⟩
    · exact .inl ⟨x1, x2⟩
    · exact .inr ⟨x1, v, hv, x2, own_down x3 hb.size⟩
  have HW : Hid (t.width = m) := hwd
  obtain ⟨o, c, hof, -⟩ := hD.form
  clear h ht hT hD hH hr hin hm0 hwk hG hs0 hDb hwd
  subst hof
  go_enter Try.func20, Try.ntmps20
  go_wp2_with fail
  refine Calls.mono C1.out ?_
  rintro e W ⟨hb, hP⟩
  clear C1
  have HB : Hid (Below w.heap.size w W) := hb
  rcases hP with ⟨x1, rfl⟩ | ⟨x1, x2, rfl⟩ | ⟨x1, x2, gr, tv, rfl, x3, x4, x5, x6, _⟩
  · have HE : Hid (∀ e, e = .returned (.tuple #[.slice none 0 0, .int .i64 2, .int .i64 0]) → Below w.heap.size w W ∧ RwP m t.values.length T D H w.heap.size e W) := fun e he => ⟨hb, .inl ⟨x1, he⟩⟩
    clear C2 hb x1
    go_wp2
    go_ret3
    exact HE.out _ rfl
  · have HE : Hid (∀ e, e = .returned (.tuple #[.slice none 0 0, .int .i64 50, .int .i64 0]) → Below w.heap.size w W ∧ RwP m t.values.length T D H w.heap.size e W) := fun e he => ⟨hb, .inr (.inl ⟨x1, by rw [← HW.out]; exact x2, he⟩)⟩
    clear C2 hb x1 x2
    go_wp2
    go_ret3
    exact HE.out _ rfl
  · rw [HW.out] at x2
    have C3 : Hid _ := C2.out gr tv W hb x3 x4 x5 x6 x1 x2
    have HX : Hid (T.length = t.values.length ∧ allW m T = true) := ⟨x1, x2⟩
    clear C2 hb x3 x4 x5 x6 x1 x2
    go_wp2_with fail
    refine Calls.mono C3.out ?_
    rintro e W2 ⟨hb2, hc⟩
    clear C3
    rcases hc with ⟨y1, rfl⟩ | ⟨y1, v, hv, rfl, y2⟩
    · have HE : Hid (∀ e, e = .returned (.tuple #[.slice none 0 0, .int .i64 52, .int .i64 (ovP 0 m H).1]) → Below w.heap.size w W2 ∧ RwP m t.values.length T D H w.heap.size e W2) := fun e he => ⟨hb2, .inr (.inr (.inl ⟨HX.out.1, HX.out.2, y1, he⟩))⟩
      clear hb2 y1 HX HB
      go_wp2
      go_ret3
      exact HE.out _ rfl
    · have HE : Hid (∀ e, e = .returned (.tuple #[v, .int .i64 0, .int .i64 0]) → Below w.heap.size w W2 ∧ RwP m t.values.length T D H w.heap.size e W2) := fun e he => ⟨hb2, .inr (.inr (.inr ⟨HX.out.1, HX.out.2, y1, v, he, y2⟩))⟩
      clear hb2 y1 y2 HX HB
      go_wp2
      go_ret3
      exact HE.out _ rfl
/-- Rewrite, of a sieve of such words. -/
theorem rewrite_hts (ws : List ByteArray) (m : Nat) (hp : Pt ws m) (ns : List Nat) (hn : NewOk ws ns) (g gt : Nat) (T : List ByteArray) (hTl : T.length ≤ 1048576) (tvl dv : Value) (D : List Nat) (hDb : Byt D) (hDl : D.length ≤ 1073741824) (w : World) (h : Sve g gt w) (ht : TabK w.heap.size gt (ftT ((wdS ws ns).map tl) ns m) w) (hT : St tvl T w) (hD : Si .u8 dv D w) :
    Calls Try.prog 20 #[.pointer (some ⟨g, 0, none⟩), dv, tvl] w fun e w' => Below w.heap.size w w' ∧ RwP m ws.length T D (hts (ws.map tl) m D) w.heap.size e w' := by
  have hw := hp.wd hn
  have hln := hp.ln
  have hl := wdS_len hn.1
  have hll : ((wdS ws ns).map tl).length = ws.length := by rw [List.length_map]; exact hl
  have hb : ∀ u ∈ (wdS ws ns).map tl, Byt u := fun u hu => by obtain ⟨s, _, rfl⟩ := List.mem_map.1 hu; exact tl_byt s
  have hv : ns.length = ((wdS ws ns).map tl).length := by rw [hn.1.len, hll]
  have hvl : (ftT ((wdS ws ns).map tl) ns m).values.length = ws.length := by
    show (lbS _ _).values.length = _
    rw [(lbS_same _ _).2.2.2.2]
    exact hn.1.len
  have hwd : (ftT ((wdS ws ns).map tl) ns m).width = m := by
    show (lbS _ _).width = _
    rw [(lbS_same _ _).2.2.1]
    rfl
  have := rewrite_gen g gt _ (hw.wk ns (by omega) hb hv hp.m1) _ (hw.gd ns (by omega) hb hv hp.m1) (gS_pos _ _ _) m hwd T hTl tvl dv D hDb hDl w h ht hT hD _ (hp.fnd hn D hDb) (hts_rg _ (by rw [List.length_map]; omega) m D (by omega)) (fun x hx => by
    obtain ⟨j, hj, rfl⟩ := List.getElem_of_mem hx
    have := hts_get (ws.map tl) m D j hj
    rw [show (hts (ws.map tl) m D).getD j (0, 0) = (hts (ws.map tl) m D)[j] by simp [List.getD, hj]] at this
    obtain ⟨i, k, h1, h2, h3, _⟩ := this
    exact ⟨i, k, h1, by omega, by omega, by rw [hvl]; simpa using h3⟩) (fun _ => hp.m0)
  rw [hvl] at this
  exact this
end Go.Proofs.Ytceaklefdahfkaa
